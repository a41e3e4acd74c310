/- The reading of an automaton, the model's: what the text reads as, in new memory; nothing that was there changes. Condition: at most 2^20 bytes. -/
import Derived.Test.YtfdbbopanankgaaDoorRdN
import Derived.Test.YtfdbbopanankgaaDoorAutS
import Derived.Test.YtfdbbopanankgaaDoorMarkB
import Derived.Test.YtfdbbopanankgaaDoorListA
import Derived.Test.YtfdbbopanankgaaDoorOwnK
import Derived.Deep.DeepCutAuto
import Derived.Deep.AppendLies
namespace Go.Proofs.YtfdbbopanankgaaDoor
open Go.RowKit
set_option maxHeartbeats 20000000
set_option maxRecDepth 100000
set_option linter.unusedVariables false

/-- One step's text: whether its numbers are such, and the step; none where it has not the form. -/
def partS (p : List UInt8) : Option (Bool × StepD) :=
  if p.length = 5 ∧ p.getD 3 0 = 58 then
    some ((numF [p.getD 0 0]).isSome && ((numF [p.getD 2 0]).isSome && (numF [p.getD 4 0]).isSome), ⟨(numF [p.getD 0 0]).getD 0, ⟨#[p.getD 1 0]⟩, (numF [p.getD 2 0]).getD 0, (numF [p.getD 4 0]).getD 0⟩)
  else none
def partsS : List (List UInt8) → Option (Bool × List StepD)
  | [] => some (true, [])
  | p :: ps => match partS p, partsS ps with
    | some (b, s), some (c, ss) => some (b && c, s :: ss)
    | _, _ => none
def stepsP (l : List UInt8) : Option (Bool × List StepD) := if l = [] then some (true, []) else partsS (cutL 32 l)
/-- What a text reads as. -/
def parseA (l : List UInt8) : Option (Int × List Int × List Int × List StepD) := match cutL 59 l with
  | [f0, f1, f2, f3] => match stepsP f3 with
    | some (b, ss) => if ((numF f0).isSome && ((readsN f1).isSome && ((readsN f2).isSome && b))) = true ∧ autoOk ((numF f0).getD 0) ((readsN f1).getD []) ((readsN f2).getD []) ss = true then some ((numF f0).getD 0, (readsN f1).getD [], (readsN f2).getD [], ss) else none
    | none => none
  | _ => none
def parseV (l : List UInt8) : AutV := match parseA l with
  | some (m, xs, ys, ss) => ⟨m, xs, ys, ss, true⟩
  | none => noneV
theorem partsS_bad {Q : List (List UInt8)} {k : Nat} {p : List UInt8} {c : Bool} {us : List StepD} {r : Option (Bool × List StepD)} (h : r = (partsS (Q.drop k)).map fun q => (c && q.1, us ++ q.2)) (hd : Q.drop k = p :: Q.drop (k + 1)) (hp : partS p = none) : r = none := by
  rw [h, hd]
  simp [partsS, hp]
theorem partsS_on {Q : List (List UInt8)} {k : Nat} {p : List UInt8} {b c : Bool} {s : StepD} {us : List StepD} {r : Option (Bool × List StepD)} (h : r = (partsS (Q.drop k)).map fun q => (c && q.1, us ++ q.2)) (hd : Q.drop k = p :: Q.drop (k + 1)) (hp : partS p = some (b, s)) : r = (partsS (Q.drop (k + 1))).map fun q => ((c && b) && q.1, (us ++ [s]) ++ q.2) := by
  rw [h, hd]
  simp only [partsS, hp]
  cases partsS (Q.drop (k + 1)) with
  | none => rfl
  | some q => simp [Bool.and_assoc]
theorem partsS_done {Q : List (List UInt8)} {k : Nat} {c : Bool} {us : List StepD} {r : Option (Bool × List StepD)} (h : r = (partsS (Q.drop k)).map fun q => (c && q.1, us ++ q.2)) (hk : Q.length ≤ k) : r = some (c, us) := by
  rw [h, List.drop_of_length_le hk]; simp [partsS]
theorem part_short {p : List UInt8} (h : ¬ p.length = 5) : partS p = none := by unfold partS; rw [if_neg (fun h' => h h'.1)]
theorem part_colon {p : List UInt8} (h : ¬ p.getD 3 0 = 58) : partS p = none := by unfold partS; rw [if_neg (fun h' => h h'.2)]
theorem ext_one (p : ByteArray) (i : Nat) (h : i < p.size) : (p.extract i (i + 1)).data.toList = [p.data.toList.getD i 0] := by
  rw [ByteArray.data_extract, Array.toList_extract, List.extract_eq_take_drop]
  have hl : i < p.data.toList.length := by simpa using h
  rw [List.drop_eq_getElem_cons hl]
  have e : i + 1 - i = 1 := by omega
  rw [e, List.take_succ_cons, List.take_zero, List.getD_eq_getElem?_getD, List.getElem?_eq_getElem hl]
  rfl
theorem ba_one {p : ByteArray} {c : UInt8} (h : p.data.toList = [c]) : p = ⟨#[c]⟩ := by
  cases p with
  | mk d =>
    have h' : d.toList = [c] := h
    have : d = #[c] := by rw [← Array.toList_inj]; exact h'
    rw [this]
def four (w : World) (g : Nat) : World := (((w.setCell ⟨g, 0, none⟩ (.int .i64 0)).setCell ⟨g, 1, none⟩ (.slice none 0 0)).setCell ⟨g, 2, none⟩ (.slice none 0 0)).setCell ⟨g, 3, none⟩ (.slice none 0 0)
theorem none_end {w wr : World} {r : AutV} (hr : r = noneV) (hb : Below w.heap.size w wr) : AEnd r w (.returned (.tuple #[.agg #[.int .i64 0, .slice none 0 0, .slice none 0 0, .slice none 0 0], .bool false])) (four wr w.heap.size) := by
  subst hr
  exact ⟨_, _, _, rfl, AOwn.none _ _, (((hb.setCell (p := ⟨w.heap.size, 0, none⟩) (Nat.le_refl _) _).setCell (p := ⟨w.heap.size, 1, none⟩) (Nat.le_refl _) _).setCell (p := ⟨w.heap.size, 2, none⟩) (Nat.le_refl _) _).setCell (p := ⟨w.heap.size, 3, none⟩) (Nat.le_refl _) _⟩
theorem blk_ne {w : World} {i j : Nat} {t t' : TypeId} {cs cs' : Array Value} (h : Blk w i t cs) (h' : Blk w j t' cs') (hne : t ≠ t') : ¬ i = j := fun e => by
  subst e
  have := (Option.some.inj ((show w.heap[i]? = _ from h).symm.trans h'))
  injection this with _ h2 _
  exact hne h2
def fourV (w : World) (g : Nat) (m : Int) (x1 x2 x3 : Value) : World := (((w.setCell ⟨g, 0, none⟩ (.int .i64 m)).setCell ⟨g, 1, none⟩ x1).setCell ⟨g, 2, none⟩ x2).setCell ⟨g, 3, none⟩ x3
theorem good_end {w wr : World} {r : AutV} {m : Int} {xs ys : List Int} {us : List StepD} {x1 x2 x3 : Value} {Bx By Bs n : Nat} (hr : r = ⟨m, xs, ys, us, true⟩) (hb : Below w.heap.size w wr) (h1 : wr.ownsRow Bx 3 1 x1 xs.length (xs.map (Value.int .i64))) (h2 : wr.ownsRow By 3 1 x2 ys.length (ys.map (Value.int .i64))) (h3 : wr.ownsRow Bs 75 4 x3 n (flatS us)) (hn : us.length = n) (l1 : w.heap.size < Bx) (l2 : w.heap.size < By) (l3 : w.heap.size < Bs) (hd : x1.ownBlock = none ∨ x1.ownBlock ≠ x2.ownBlock) (n1 : xs.length ≤ 1048577) (n2 : ys.length ≤ 1048577) (n3 : n ≤ 1048577) (hs : ∀ s ∈ us, s.le.size ≤ 1) : AEnd r w (.returned (.tuple #[.agg #[.int .i64 m, x1, x2, x3], .bool true])) (fourV wr w.heap.size m x1 x2 x3) := by
  subst hr
  subst hn
  have G : wr.grownBy (fourV wr w.heap.size m x1 x2 x3) (some w.heap.size) := grow_trans (grow_trans (grow_trans (grow_set wr w.heap.size 0 _) (grow_set _ w.heap.size 1 _)) (grow_set _ w.heap.size 2 _)) (grow_set _ w.heap.size 3 _)
  refine ⟨x1, x2, x3, rfl, ⟨own_base (h1.kept G (own_ne (fun j hj e => by cases e; have := (h1.lt _ hj).1; omega))) (Nat.le_of_lt l1), own_base (h2.kept G (own_ne (fun j hj e => by cases e; have := (h2.lt _ hj).1; omega))) (Nat.le_of_lt l2), own4_base (h3.kept G (own_ne (fun j hj e => by cases e; have := (h3.lt _ hj).1; omega))) (Nat.le_of_lt l3), hd, n1, n2, n3, fun s h => Nat.le_trans (hs s h) (by decide)⟩, hb.grown G hb.size (fun j hj => by cases hj; exact Nat.le_refl _)⟩
theorem sParA_any (s : ByteArray) (w : World) (hs : s.size ≤ 1048576) :
    Calls Tryd.prog 56 #[.string s] w fun e w' => AEnd (parseV s.data.toList) w e w' := by
  obtain ⟨j0, kj, kz0, kz1, kz2⟩ := info_step'
  have Y0 := Lib.hid kz0
  have Y1 := Lib.hid kz1
  have Y2 := Lib.hid kz2
  have YI := Lib.hid kj
  obtain ⟨w0, hw0⟩ : ∃ w0, w0 = w.alloc (.cells #[.int .i64 0, .slice none 0 0, .slice none 0 0, .slice none 0 0] 26) := ⟨_, rfl⟩
  have R0 : Hid (Blk w0 w.heap.size 26 #[.int .i64 0, .slice none 0 0, .slice none 0 0, .slice none 0 0]) := by rw [hw0]; exact Blk.new _ _ _
  have B0 : Hid (Below w.heap.size w w0) := by rw [hw0]; exact below_a1 _ _
  have hs0 : w.heap.size < w0.heap.size := by rw [hw0]; simp
  have hsl : s.data.toList.length = s.size := by simp
  have HSL := Lib.hid hsl
  clear kz0 kz1 kz2 kj hsl
  go_enter Tryd.func56, Tryd.ntmps56
  obtain ⟨Q0, hQ0⟩ : ∃ Q0 : Exit → Act → World → Prop, Q0 = bodyPost Tryd.prog Tryd.f56 (fun e w' => AEnd (parseV s.data.toList) w e w') := ⟨_, rfl⟩
  rw [← hQ0]
  have HQ0 : Hid (∀ x a w', bodyPost Tryd.prog Tryd.f56 (fun e w' => AEnd (parseV s.data.toList) w e w') x a w' → Q0 x a w') := by
    show ∀ _, _
    intro x a w' h
    rw [hQ0]
    exact h
  have HP0 : Hid (∀ c (a : Act) d v w', Q0 (.panic c) (a.put d v) w' → Q0 (.panic c) a w') := by
    show ∀ _, _
    intro c a d v w' h
    rw [hQ0] at h ⊢
    cases d <;> exact h
  clear hQ0
  let QT : Exit → Act → World → Prop := bodyPost Tryd.prog Tryd.f56 (fun e w' => AEnd (parseV s.data.toList) w e w')
  go_wp2_with fail
  rw [← hw0]
  clear hw0
  refine (cut_any s 59 59 rfl _ hs).mono ?_
  rintro e w1 ⟨x, ps, rfl, hps, hown, hb1, hfew⟩
  have hpos : 0 < ps.length := by
    have h1 : ps.length = (cutL 59 s.data.toList).length := by rw [← hps]; simp
    have h2 : ¬ (cutL 59 s.data.toList).length = 0 := fun h0 => cutL_ne 59 s.data.toList (List.eq_nil_of_length_eq_zero h0)
    omega
  obtain ⟨g, cap, cur, rfl, hg, hblk, hcells⟩ := own_strsN hown hpos
  have R1 := Lib.hid (blk_b R0.out hb1)
  have B1 := Lib.hid (below_on B0.out hb1)
  have hs1 : w.heap.size < w1.heap.size := Nat.lt_of_lt_of_le hs0 hb1.size
  by_cases h4 : ps.length = 4
  · obtain ⟨q0, q1, q2, q3, rfl⟩ : ∃ q0 q1 q2 q3, ps = [q0, q1, q2, q3] := by
      match ps, h4 with
      | [a, b, c, d], _ => exact ⟨a, b, c, d, rfl⟩
    have hz0 := (pieceN_at hps (k := 0) (by simp)).2
    have hz1 := (pieceN_at hps (k := 1) (by simp)).2
    have hz2 := (pieceN_at hps (k := 2) (by simp)).2
    have hz3 := (pieceN_at hps (k := 3) (by simp)).2
    simp only [List.getElem_cons_zero, List.getElem_cons_succ] at hz0 hz1 hz2 hz3
    rw [HSL.out] at hz0 hz1 hz2 hz3
    have c0 := hcells 0 (by simp)
    have c1 := hcells 1 (by simp)
    have c2 := hcells 2 (by simp)
    have c3 := hcells 3 (by simp)
    simp only [List.getElem_cons_zero, List.getElem_cons_succ] at c0 c1 c2 c3
    have HP : Hid (parseA s.data.toList = match stepsP q3.data.toList with
      | some (b, ss) => if ((numF q0.data.toList).isSome && ((readsN q1.data.toList).isSome && ((readsN q2.data.toList).isSome && b))) = true ∧ autoOk ((numF q0.data.toList).getD 0) ((readsN q1.data.toList).getD []) ((readsN q2.data.toList).getD []) ss = true then some ((numF q0.data.toList).getD 0, (readsN q1.data.toList).getD [], (readsN q2.data.toList).getD [], ss) else none
      | none => none) := by
      show _ = _
      unfold parseA
      rw [← hps]
      rfl
    have hl4 : ([q0, q1, q2, q3] : List ByteArray).length = 4 := rfl
    rw [hl4]
    clear hps hown hfew hcells hblk hpos h4 hl4 hb1
    go_wp2_with fail
    have hnum := num_any q0 w1 (by omega)
    obtain ⟨v0, hv0⟩ : ∃ v0, v0 = (numF q0.data.toList).getD 0 := ⟨_, rfl⟩
    obtain ⟨b0, hb0⟩ : ∃ b0, b0 = (numF q0.data.toList).isSome := ⟨_, rfl⟩
    rw [← hv0, ← hb0] at HP
    refine hnum.mono ?_
    rintro e w' ⟨he, rfl⟩
    unfold NumEnd at he
    rw [← hv0, ← hb0] at he
    subst he
    clear hnum hv0 hb0
    go_wp2_with fail
    refine (sReadN_any q1 _ (by omega)).mono ?_
    rintro e w2 ⟨x1, rfl, ho1, hb1, hl1⟩
    obtain ⟨xs, hxs⟩ : ∃ xs, xs = (readsN q1.data.toList).getD [] := ⟨_, rfl⟩
    obtain ⟨b1, hbb1⟩ : ∃ b1, b1 = (readsN q1.data.toList).isSome := ⟨_, rfl⟩
    rw [← hxs, ← hbb1] at HP
    rw [← hxs] at ho1 hl1
    rw [← hbb1]
    have O1 := Lib.hid ho1
    have R2 := Lib.hid (blk_b R1.out hb1)
    have B2 := Lib.hid (below_on B1.out hb1)
    have c2' := (hb1.cell (p := ⟨g, 2, none⟩) hg).trans c2
    have c3' := (hb1.cell (p := ⟨g, 3, none⟩) hg).trans c3
    have hs2 : w.heap.size < w2.heap.size := Nat.lt_of_lt_of_le hs1 hb1.size
    have hg2 : g < w2.heap.size := Nat.lt_of_lt_of_le hg hb1.size
    have HW12 : Hid (w1.heap.size ≤ w2.heap.size) := hb1.size
    clear hxs hbb1 ho1 hb1 R1 B1 c0 c1 c2 c3 hg R0 B0 hs0
    go_wp2_with fail
    refine (sReadN_any q2 _ (by omega)).mono ?_
    rintro e w3 ⟨x2, rfl, ho2, hb2, hl2⟩
    obtain ⟨ys, hys⟩ : ∃ ys, ys = (readsN q2.data.toList).getD [] := ⟨_, rfl⟩
    obtain ⟨b2, hbb2⟩ : ∃ b2, b2 = (readsN q2.data.toList).isSome := ⟨_, rfl⟩
    rw [← hys, ← hbb2] at HP
    rw [← hys] at ho2 hl2
    rw [← hbb2]
    have D12 : Hid (∀ j, x1.ownBlock = some j → j < w2.heap.size) := fun j hj => (O1.out.lt j hj).2
    have D2 : Hid (∀ j, x2.ownBlock = some j → w2.heap.size ≤ j) := fun j hj => (ho2.lt j hj).1
    have O1' := Lib.hid (own_under O1.out hb2)
    have O2 := Lib.hid ho2
    have R3 := Lib.hid (blk_b R2.out hb2)
    have B3 := Lib.hid (below_on B2.out hb2)
    have c3'' := (hb2.cell (p := ⟨g, 3, none⟩) hg2).trans c3'
    have hs3 : w.heap.size < w3.heap.size := Nat.lt_of_lt_of_le hs2 hb2.size
    have hg3 : g < w3.heap.size := Nat.lt_of_lt_of_le hg2 hb2.size
    have HW23 : Hid (w2.heap.size ≤ w3.heap.size) := hb2.size
    clear hys hbb2 ho2 hb2 R2 B2 c2' c3' hg2 O1
    obtain ⟨E1, k1, rfl, hk1, i1⟩ := own_ints O1'.out (by unfold maxLen; omega)
    obtain ⟨E2, k2, rfl, hk2, i2⟩ := own_ints O2.out (by unfold maxLen; omega)
    obtain ⟨V, hV⟩ : ∃ V, V = w3.heap.size + 1 := ⟨_, rfl⟩
    obtain ⟨w5, hw5⟩ : ∃ w5, w5 = (w3.alloc (.cells #[] 75)).alloc (.cells #[.int .i64 v0, .slice E1 xs.length k1, .slice E2 ys.length k2, .slice (some ⟨w3.heap.size, 0, none⟩) 0 0] 26) := ⟨_, rfl⟩
    have V5 : Hid (Blk w5 V 26 #[.int .i64 v0, .slice E1 xs.length k1, .slice E2 ys.length k2, .slice (some ⟨w3.heap.size, 0, none⟩) 0 0]) := by rw [hw5]; exact blk_new (by rw [hV]; simp)
    have L5 : Hid (w5.ownsRow w3.heap.size 75 4 (.slice (some ⟨w3.heap.size, 0, none⟩) 0 0) 0 (flatS [])) := by rw [hw5]; exact World.ownsRow.alloc (World.ownsRow_lit w3 #[] 0 (Nat.le_refl _) (Nat.zero_le _) rfl) _
    have B5 : Hid (Below w3.heap.size w3 w5) := by rw [hw5]; exact below_a2 _ _ _
    have hs5 : V < w5.heap.size := by rw [hw5, hV]; simp
    have HV3 : Hid (V = w3.heap.size + 1) := hV
    have c3w : Hid (w5.cell? ⟨g, 3, none⟩ = some (.string q3)) := (B5.out.cell (p := ⟨g, 3, none⟩) hg3).trans c3''
    go_upto_region 8 with fail
    rw [← hw5, ← hV]
    clear hw5 hV
    obtain ⟨ok, hok⟩ : ∃ ok, ok = (b0 && (b1 && b2)) := ⟨_, rfl⟩
    go_cut [12] (fun s wx => s = .bool ok ∧ wx = w5)
    case first =>
      cases b0
      · go_wp2_with fail
        go_meet
        exact ⟨by rw [hok]; rfl, rfl⟩
      · cases b1
        · go_wp2_with fail
          go_meet
          exact ⟨by rw [hok]; rfl, rfl⟩
        · cases b2
          · go_wp2_with fail
            go_meet
            exact ⟨by rw [hok]; rfl, rfl⟩
          · go_wp2_with fail
            go_meet
            exact ⟨by rw [hok]; rfl, rfl⟩
    case rest =>
      obtain ⟨rfl, rfl⟩ := hcut
      have HOKD := Lib.hid hok
      clear hok
      have c3v := c3w.out
      cases he : q3.toList.isEmpty with
      | true =>
        have hst : Hid (stepsP q3.data.toList = some (true, [])) := by
          show _ = _
          unfold stepsP
          rw [if_pos (by rw [ByteArray.toList_eq] at he; exact List.isEmpty_iff.1 he)]
        obtain ⟨okk, hokk'⟩ : ∃ okk, ok = okk := ⟨_, rfl⟩
        have hokk : Hid (okk = (ok && true)) := by show _ = _; rw [Bool.and_true, hokk']
        rw [hokk']
        have hul : ([] : List StepD).length = 0 := rfl
        have hn : (0 : Nat) ≤ 1048577 := by omega
        have hVb := V5
        have hL := L5
        have hB := B5
        have hsz : Hid (∀ s ∈ ([] : List StepD), s.le.size ≤ 1) := fun s hs => by cases hs
        obtain ⟨c, hc⟩ : ∃ c, c = true := ⟨_, rfl⟩
        obtain ⟨us, hus⟩ : ∃ us : List StepD, us = [] := ⟨_, rfl⟩
        rw [← hc, ← hus] at hst
        rw [← hc] at hokk
        rw [← hus] at hul hL hsz
        obtain ⟨n, hn0⟩ : ∃ n : Nat, n = 0 := ⟨_, rfl⟩
        have HOK' := Lib.hid hokk'
        have HUS := Lib.hid hus
        clear V5 L5 B5 hokk' hc hus
        go_upto_region 21 with fail
        clear c3v
        have R5 := Lib.hid (R3.out.below hB.out hs3)
        have BW := Lib.hid (below_on B3.out hB.out)
        obtain ⟨d0, d1, d2, d3⟩ := four_cells R5.out
        obtain ⟨f0, f1, f2, f3⟩ := four_frozen R5.out
        cases okk with
        | false =>
          have HR : Hid (parseV s.data.toList = noneV) := by
            show _ = _
            unfold parseV
            rw [HP.out, hst.out]
            have : (b0 && (b1 && (b2 && c))) = false := by have h := hokk.out; rw [HOKD.out] at h; revert h; cases b0 <;> cases b1 <;> cases b2 <;> cases c <;> simp
            simp [this]
          go_wp2_with fail
          refine HQ0.out _ _ _ ?_
          refine bodyPost_ret (results_2 rfl (Gives.row (g := w.heap.size) rfl (four_set R5.out _ _ _ _) Tryd.underlying26 rfl (by kernel_rfl)) (.tmp rfl)) rfl ?_
          exact none_end HR.out BW.out
        | true =>
          have hall : (b0 && (b1 && (b2 && c))) = true := by have h := hokk.out; rw [HOKD.out] at h; revert h; cases b0 <;> cases b1 <;> cases b2 <;> cases c <;> simp
          have HALL := Lib.hid hall
          have IX : Hid (Ints wc wc.heap.size E1 xs) := (i1.below hB.out).more hB.out.size
          have IY : Hid (Ints wc wc.heap.size E2 ys) := (i2.below hB.out).more hB.out.size
          obtain ⟨E', cp', eE, SS⟩ := own_read4 hL.out hul hn (fun s hs => Nat.le_trans (hsz.out s hs) (by decide))
          rw [hul] at eE
          cases eE
          have IS := Lib.hid SS
          obtain ⟨r, hr⟩ : ∃ r, autoOk v0 xs ys us = r := ⟨_, rfl⟩
          have HRR := Lib.hid hr
          obtain ⟨p0, p1, p2, p3⟩ := four_cells hVb.out
          clear hall SS hr
          go_wp2_with fail
          have hcv := sAutomatonValid_is v0 E1 E2 (some ⟨w3.heap.size, 0, none⟩) k1 k2 0 xs ys us r _ IX.out IY.out IS.out HRR.out
          rw [hul] at hcv
          refine hcv.mono ?_
          rintro e w8 ⟨rfl, hb8⟩
          have V8 := Lib.hid (blk_b hVb.out hb8.out)
          have R8 := Lib.hid (blk_b R5.out hb8.out)
          have B8 := Lib.hid (below_on BW.out hb8.out)
          have L8 := Lib.hid (own4_under hL.out hb8.out)
          have X8 := Lib.hid (own_under (own_under O1'.out (hB.out)) hb8.out)
          have Z8 := Lib.hid (own_under (own_under O2.out (hB.out)) hb8.out)
          clear hb8 hcv
          obtain ⟨p0, p1, p2, p3⟩ := four_cells V8.out
          obtain ⟨d0, d1, d2, d3⟩ := four_cells R8.out
          obtain ⟨f0, f1, f2, f3⟩ := four_frozen R8.out
          cases r with
          | false =>
            have HR : Hid (parseV s.data.toList = noneV) := by
              show _ = _
              unfold parseV
              rw [HP.out, hst.out]
              simp [HRR.out]
            go_wp2_with fail
            refine HQ0.out _ _ _ ?_
            refine bodyPost_ret (results_2 rfl (Gives.row (g := w.heap.size) rfl (four_set R8.out _ _ _ _) Tryd.underlying26 rfl (by kernel_rfl)) (.tmp rfl)) rfl ?_
            exact none_end HR.out B8.out
          | true =>
            have HR : Hid (parseV s.data.toList = ⟨v0, xs, ys, us, true⟩) := by
              show _ = _
              unfold parseV
              rw [HP.out, hst.out]
              simp only
              rw [if_pos ⟨HALL.out, HRR.out⟩]
            go_wp2_with fail
            refine HQ0.out _ _ _ ?_
            refine bodyPost_ret (results_2 rfl (Gives.row (g := w.heap.size) rfl (four_set R8.out _ _ _ _) Tryd.underlying26 rfl (by kernel_rfl)) (.tmp rfl)) rfl ?_
            exact good_end HR.out B8.out X8.out Z8.out L8.out hul (by omega) (by omega) (by omega) (by
              rcases hx : (Value.slice E1 xs.length k1).ownBlock with _ | j
              · exact Or.inl rfl
              · right
                intro e
                have h1 := D12.out j hx
                have h2 := D2.out j e.symm
                omega) hl1 hl2 hn hsz.out
      | false =>
        have HNE : Hid (stepsP q3.data.toList = partsS (cutL 32 q3.data.toList)) := by
          show _ = _
          unfold stepsP
          rw [if_neg (by rw [ByteArray.toList_eq] at he; intro e; rw [e] at he; cases he)]
        go_wp2_with fail
        refine (cut_any q3 32 32 rfl _ (by omega)).mono ?_
        rintro e w6 ⟨x, ps, rfl, hps, hown, hb6, hfew⟩
        have hpos : 0 < ps.length := by
          have h1 : ps.length = (cutL 32 q3.data.toList).length := by rw [← hps]; simp
          have h2 : ¬ (cutL 32 q3.data.toList).length = 0 := fun h0 => cutL_ne 32 q3.data.toList (List.eq_nil_of_length_eq_zero h0)
          omega
        obtain ⟨g6, cap6, cur6, rfl, hg6, hblk6, hcells6⟩ := own_strsN hown hpos
        have V6 := Lib.hid (blk_b V5.out hb6)
        have L6 := Lib.hid (own4_under L5.out hb6)
        have B6 := Lib.hid (B5.out.trans (hb6.mono B5.out.size))
        have HPS := Lib.hid hps
        have HC6 := Lib.hid hcells6
        have HBK : Hid (Blk w6 g6 9 cur6) := hblk6
        have hfew' : ps.length ≤ 1048577 := by
          have : q3.data.toList.length = q3.size := by simp
          omega
        have hs6 : V < w6.heap.size := Nat.lt_of_lt_of_le hs5 hb6.size
        obtain ⟨n6, hn6⟩ : ∃ n6, n6 = ps.length := ⟨_, rfl⟩
        have HN6 := Lib.hid hn6
        rw [← hn6] at hpos hfew' ⊢
        clear hps hown hb6 hfew hcells6 hblk6 V5 L5 B5 hn6 he c3v
        go_wp2_with fail
        go_loopw [69, 12] (fun i okv wr => ∃ (k : Nat) (c okk : Bool) (us : List StepD) (E : Option Addr) (cp n : Nat), k ≤ n6 ∧ i = .int .i64 k ∧ okv = .bool okk ∧ Hid (okk = (ok && c)) ∧ n = k ∧ us.length = n ∧ Hid (partsS (cutL 32 q3.data.toList) = (partsS ((cutL 32 q3.data.toList).drop k)).map fun q => (c && q.1, us ++ q.2)) ∧ Hid (Blk wr V 26 #[.int .i64 v0, .slice E1 xs.length k1, .slice E2 ys.length k2, .slice E n cp]) ∧ Hid (wr.ownsRow w3.heap.size 75 4 (.slice E n cp) n (flatS us)) ∧ Hid (Below w3.heap.size w3 wr) ∧ Hid (∀ s ∈ us, s.le.size ≤ 1) ∧ Hid (Blk wr g6 9 cur6) ∧ Hid (w6.heap.size ≤ wr.heap.size)) (fun i _ _ => n6 - (intOf i).toNat)
        case atStart => exact ⟨0, true, ok, [], _, 0, 0, by omega, rfl, rfl, by show _ = _; rw [Bool.and_true], rfl, rfl, (by show _ = _; simp), V6.out, L6.out, B6.out, (fun s hs => by cases hs), HBK.out, Nat.le_refl _⟩
        case round =>
          clear V6 L6 B6
          obtain ⟨k, c, okk, us, E, cp, n, hk, rfl, rfl, hokk, hnk, hul, hP, hVb, hL, hB, hsz, hgk, hS6⟩ := hrel
          by_cases hlt : k < n6
          · have hlt' : k < ps.length := by rw [← HN6.out]; exact hlt
            have hc := (Blk.cell hgk.out k).trans ((Blk.cell HBK.out k).symm.trans (HC6.out k hlt'))
            obtain ⟨hd, hpsz⟩ := pieceN_at HPS.out hlt'
            obtain ⟨p, hpe⟩ : ∃ p, p = ps[k] := ⟨_, rfl⟩
            rw [← hpe] at hc hd hpsz
            have HD := Lib.hid hd
            clear hd hpe
            by_cases h5 : p.size = 5
            · have h5b : ((p.size : Int) != 5) = false := by rw [bne_eq_false_iff_eq]; omega
              have jz : (0 : Int) ≤ 3 := by omega
              have j3 : (3 : Int) < (p.size : Int) := by omega
              have hl3 : 3 < p.size := by omega
              have HL5 := Lib.hid h5
              clear h5
              by_cases h58 : p[3]'hl3 = 58
              · have h5 := HL5.out
                have h58b : (((p[3]'hl3).toNat : Int) != 58) = false := by rw [bne_eq_false_iff_eq, h58]; rfl
                have hg3 : p.data.toList.getD 3 0 = 58 := by
                  rw [← h58, List.getD_eq_getElem?_getD, List.getElem?_eq_getElem (by simp; omega)]; rfl
                obtain ⟨a0, ha0⟩ : ∃ a0, a0 = (numF [p.data.toList.getD 0 0]).getD 0 := ⟨_, rfl⟩
                obtain ⟨y0, hy0⟩ : ∃ y0, y0 = (numF [p.data.toList.getD 0 0]).isSome := ⟨_, rfl⟩
                obtain ⟨a2, ha2⟩ : ∃ a2, a2 = (numF [p.data.toList.getD 2 0]).getD 0 := ⟨_, rfl⟩
                obtain ⟨y2, hy2⟩ : ∃ y2, y2 = (numF [p.data.toList.getD 2 0]).isSome := ⟨_, rfl⟩
                obtain ⟨a4, ha4⟩ : ∃ a4, a4 = (numF [p.data.toList.getD 4 0]).getD 0 := ⟨_, rfl⟩
                obtain ⟨y4, hy4⟩ : ∃ y4, y4 = (numF [p.data.toList.getD 4 0]).isSome := ⟨_, rfl⟩
                obtain ⟨st, hst⟩ : ∃ st : StepD, st = ⟨a0, p.extract 1 2, a2, a4⟩ := ⟨_, rfl⟩
                have HPT : Hid (partS p.data.toList = some (y0 && (y2 && y4), st)) := by
                  show _ = _
                  unfold partS
                  rw [if_pos ⟨by simp; omega, hg3⟩, ← ha0, ← ha2, ← ha4, ← hy0, ← hy2, ← hy4, hst, ba_one (ext_one p 1 (by omega))]
                have HPN := Lib.hid (partsS_on hP.out HD.out HPT.out)
                have hn0 := num_any (p.extract 0 1) wr (by rw [ByteArray.size_extract]; omega)
                have hn2 := num_any (p.extract 2 3) wr (by rw [ByteArray.size_extract]; omega)
                have hn4 := num_any (p.extract 4 p.size) wr (by rw [ByteArray.size_extract]; omega)
                have e45 : (p.extract 4 p.size).data.toList = [p.data.toList.getD 4 0] := by rw [h5]; exact ext_one p 4 (by omega)
                rw [ext_one p 0 (by omega)] at hn0
                rw [ext_one p 2 (by omega)] at hn2
                rw [e45] at hn4
                unfold NumEnd at hn0 hn2 hn4
                rw [← ha0, ← hy0] at hn0
                rw [← ha2, ← hy2] at hn2
                rw [← ha4, ← hy4] at hn4
                have H0 := Lib.hid hn0
                have H2 := Lib.hid hn2
                have H4 := Lib.hid hn4
                have HST := Lib.hid hst
                have hle1 : (p.extract 1 2).size ≤ 1 := by rw [ByteArray.size_extract]; omega
                clear hn0 hn2 hn4 ha0 hy0 ha2 hy2 ha4 hy4 hst e45 hg3 hP h5 h58
                have j1 : (1 : Int) ≤ (p.size : Int) := by omega
                have j2 : (2 : Int) ≤ (p.size : Int) := by omega
                have j33 : (3 : Int) ≤ (p.size : Int) := by omega
                have j4 : (4 : Int) ≤ (p.size : Int) := by have := HL5.out; omega
                go_wp2_with fail
                refine H0.out.mono ?_
                rintro e w' ⟨rfl, rfl⟩
                go_wp2_with fail
                refine H2.out.mono ?_
                rintro e w' ⟨rfl, rfl⟩
                go_wp2_with fail
                refine H4.out.mono ?_
                rintro e w' ⟨rfl, rfl⟩
                have HNK := Lib.hid hnk
                clear hnk
                go_upto_region 18 with fail
                obtain ⟨okn, hokn⟩ : ∃ x, x = (okk && (y0 && (y2 && y4))) := ⟨_, rfl⟩
                have HOKN := Lib.hid hokn
                clear hokn
                go_cut [69, 12] from 69 to 121 (fun i s wx => i = .int .i64 k ∧ s = .bool okn ∧ wr = wx)
                case first =>
                  cases okk
                  · have e : okn = false := by rw [HOKN.out]; rfl
                    subst e
                    go_wp2_with fail
                    go_meet
                    exact ⟨rfl, rfl, rfl⟩
                  · cases y0
                    · have e : okn = false := by rw [HOKN.out]; rfl
                      subst e
                      go_wp2_with fail
                      go_meet
                      exact ⟨rfl, rfl, rfl⟩
                    · cases y2
                      · have e : okn = false := by rw [HOKN.out]; rfl
                        subst e
                        go_wp2_with fail
                        go_meet
                        exact ⟨rfl, rfl, rfl⟩
                      · have e : okn = y4 := by rw [HOKN.out]; rfl
                        subst e
                        go_wp2_with fail
                        go_meet
                        exact ⟨rfl, rfl, rfl⟩
                case rest =>
                  obtain ⟨rfl, rfl, rfl⟩ := hcut
                  go_upto_region 19 with fail
                  refine wp_region_Z (S := fun w' => w'.cell? ⟨V, 3, none⟩ = some (.slice E n cp)) (by kernel_rfl) (Blk.cell (w := wr.drew) hVb.out 3) (fun hS => ?_)
                  refine wpAnyZ_take (i := 0) (v := ?vq0) rfl (by kernel_rfl) (by kernel_rfl) (by kernel_rfl) (by kernel_rfl) (fun _ _ _ h => HP0.out _ _ _ _ _ h) (Or.inl ⟨by kernel_rfl, ?yq0⟩) (by with_reducible assumption) ?rq0
                  case yq0 => (intro w hSw; (try dsimp only at hSw); go_simp; (try with_reducible rfl))
                  simp only [Act.put, List.setIfInBounds_toArray]
                  refine wpAnyZ_take (i := 1) (v := ?vq1) rfl (by kernel_rfl) (by kernel_rfl) (by kernel_rfl) (by kernel_rfl) (fun _ _ _ h => HP0.out _ _ _ _ _ h) (Or.inl ⟨by kernel_rfl, ?yq1⟩) (by with_reducible assumption) ?rq1
                  case yq1 => (intro w hSw; (try dsimp only at hSw); go_simp; (try with_reducible rfl))
                  simp only [Act.put]
                  refine wpAnyZ_take (i := 2) (v := ?vq2) rfl (by kernel_rfl) (by kernel_rfl) (by kernel_rfl) (by kernel_rfl) (fun _ _ _ h => HP0.out _ _ _ _ _ h) (Or.inl ⟨by kernel_rfl, ?yq2⟩) (by with_reducible assumption) ?rq2
                  case yq2 => (intro w hSw; (try dsimp only at hSw); go_simp; (try with_reducible rfl))
                  simp only [Act.put]
                  refine wpAnyZ_take (i := 3) (v := ?vq3) rfl (by kernel_rfl) (by kernel_rfl) (by kernel_rfl) (by kernel_rfl) (fun _ _ _ h => HP0.out _ _ _ _ _ h) (Or.inl ⟨by kernel_rfl, ?yq3⟩) (by with_reducible assumption) ?rq3
                  case yq3 => (intro w hSw; (try dsimp only at hSw); go_simp; (try with_reducible rfl))
                  simp only [Act.put]
                  refine wpAnyZ_take (i := 4) (v := ?vq4) rfl (by kernel_rfl) (by kernel_rfl) (by kernel_rfl) (by kernel_rfl) (fun _ _ _ h => HP0.out _ _ _ _ _ h) (Or.inl ⟨by kernel_rfl, ?yq4⟩) (by with_reducible assumption) ?rq4
                  case yq4 => (intro w hSw; (try dsimp only at hSw); go_simp; (try with_reducible rfl))
                  simp only [Act.put]
                  refine wpAnyZ_take (i := 5) (v := ?vq5) rfl (by kernel_rfl) (by kernel_rfl) (by kernel_rfl) (by kernel_rfl) (fun _ _ _ h => HP0.out _ _ _ _ _ h) (Or.inl ⟨by kernel_rfl, ?yq5⟩) (by with_reducible assumption) ?rq5
                  case yq5 => (intro w hSw; (try dsimp only at hSw); go_simp; (try with_reducible rfl))
                  simp only [Act.put]
                  refine wpAnyZ_take (i := 6) (v := ?vq6) rfl (by kernel_rfl) (by kernel_rfl) (by kernel_rfl) (by kernel_rfl) (fun _ _ _ h => HP0.out _ _ _ _ _ h) (Or.inl ⟨by kernel_rfl, ?yq6⟩) (by with_reducible assumption) ?rq6
                  case yq6 => (intro w hSw; (try dsimp only at hSw); go_simp; (try with_reducible rfl))
                  simp only [Act.put]
                  refine wpAnyZ_take (i := 7) (v := ?vq7) rfl (by kernel_rfl) (by kernel_rfl) (by kernel_rfl) (by kernel_rfl) (fun _ _ _ h => HP0.out _ _ _ _ _ h) (Or.inl ⟨by kernel_rfl, ?yq7⟩) (by with_reducible assumption) ?rq7
                  case yq7 => (intro w hSw; (try dsimp only at hSw); go_simp; (try with_reducible rfl))
                  simp only [Act.put]
                  refine wpAnyZ_step (i := 8) (by kernel_rfl) rfl ?_
                  intro K8 hK8
                  go_simp
                  refine hK8.out _ _ (Blk.cell (Blk.alloc (w := wr.drew) hVb.out _) 3) (fun hS' => ?_)
                  clear hK8 hS
                  have hS := hS'
                  clear hS'
                  (try simp only [Act.put])
                  refine wpAnyZ_step (i := 9) (by kernel_rfl) rfl ?_
                  intro K9 hK9
                  obtain ⟨wo, hwo⟩ : ∃ x, x = (wr.alloc (.cells #[.int .i64 a0, .string (p.extract 1 2), .int .i64 a2, .int .i64 a4] 75)).drew := ⟨_, rfl⟩
                  rw [← hwo]
                  have BO : Hid (Below w3.heap.size w3 wo) := by rw [hwo]; exact below_dr (hB.out.alloc hB.out.size _) 1
                  have VO : Hid (Blk wo V 26 #[.int .i64 v0, .slice E1 xs.length k1, .slice E2 ys.length k2, .slice E n cp]) := by rw [hwo]; exact Blk.alloc hVb.out _
                  have GO : Hid (Blk wo g6 9 cur6) := by rw [hwo]; exact Blk.alloc hgk.out _
                  have LO : Hid (wo.ownsRow w3.heap.size 75 4 (.slice E n cp) n (flatS us)) := by rw [hwo]; exact World.ownsRow.alloc hL.out _
                  have NO : Hid (∀ j u, [Value.int .i64 a0, .string (p.extract 1 2), .int .i64 a2, .int .i64 a4][j]? = some u → wo.cell? ((⟨wr.heap.size, 0, none⟩ : Addr).add j) = some u) := by rw [hwo]; exact lit_news wr #[.int .i64 a0, .string (p.extract 1 2), .int .i64 a2, .int .i64 a4] _
                  have hso : wr.heap.size + 1 = wo.heap.size := by rw [hwo]; show _ = (wr.alloc _).heap.size; simp
                  clear hwo
                  have hVW := Blk.lt hVb.out
                  have hn9 : n ≤ 1048577 := by have := HNK.out; omega
                  have hB9 := hB.out.size
                  refine step_append_lies _ rfl _ _ 24 rfl w3.heap.size 75 j0 (.agg #[.int .i64 0, .string ByteArray.empty, .int .i64 0, .int .i64 0]) 4 40 Tryd.underlying24 YI.out Y0.out Y1.out Y2.out rfl (by decide) (.slice E n cp) n (flatS us) rfl LO.out ⟨wr.heap.size, 0, none⟩ 1 1 [.int .i64 a0, .string (p.extract 1 2), .int .i64 a2, .int .i64 a4] rfl rfl NO.out (by intro u hu; simp at hu; rcases hu with rfl | rfl | rfl | rfl <;> rfl) (by decide) (by unfold maxLen; omega) (by omega) (by omega) _ rfl ?_
                  intro g' cap' w9 hown' hgrow hat hlt9
                  have hb9 : Below w3.heap.size w3 w9 := BO.out.grown hgrow (by omega) (fun j hj => (LO.out.lt j hj).1)
                  have V9 : Hid (Blk w9 V 26 #[.int .i64 v0, .slice E1 xs.length k1, .slice E2 ys.length k2, .slice E n cp]) := Blk.stay VO.out hgrow (own_ne_blk LO.out VO.out (by decide))
                  have G9 : Hid (Blk w9 g6 9 cur6) := Blk.stay GO.out hgrow (own_ne_blk LO.out GO.out (by decide))
                  have hVg : ¬ V = g' := fun e => by
                    subst e
                    exact own_ne_blk hown' V9.out (by decide) rfl
                  have hV6 : ¬ V = g6 := blk_ne hVb.out hgk.out (by decide)
                  have B10 := Lib.hid (hb9.setCell (p := ⟨V, 3, none⟩) (show w3.heap.size ≤ V by have := HV3.out; omega) (.slice (some ⟨g', 0, none⟩) (n + 1) cap'))
                  have hown2 : w9.ownsRow w3.heap.size 75 4 (.slice (some ⟨g', 0, none⟩) (n + 1) cap') (n + 1) (flatS (us ++ [st])) := by
                    rw [flatS_snoc, HST.out]
                    exact hown'
                  have O10 := Lib.hid (hown2.kept (grow_set w9 V 3 (.slice (some ⟨g', 0, none⟩) (n + 1) cap')) (own_ne (fun j hj e => by cases e; cases hj; exact hVg rfl)))
                  have V10 := Lib.hid (V9.out.set_ 3 (.slice (some ⟨g', 0, none⟩) (n + 1) cap'))
                  have G10 := Lib.hid (G9.out.other V 3 (.slice (some ⟨g', 0, none⟩) (n + 1) cap') hV6)
                  have hs10 : Hid (w6.heap.size ≤ (w9.setCell ⟨V, 3, none⟩ (.slice (some ⟨g', 0, none⟩) (n + 1) cap')).heap.size) := by
                    show _ ≤ _
                    have h1 := hgrow.size
                    have h2 := hS6.out
                    have h3 := (grow_set w9 V 3 (.slice (some ⟨g', 0, none⟩) (n + 1) cap')).size
                    omega
                  have hul2 : (us ++ [st]).length = n + 1 := by rw [List.length_append, hul]; rfl
                  have hsz2 : Hid (∀ s ∈ us ++ [st], s.le.size ≤ 1) := fun s hs => by
                    rcases List.mem_append.1 hs with h | h
                    · exact hsz.out s h
                    · rw [List.mem_singleton] at h
                      rw [h, HST.out]
                      exact hle1
                  refine hK9.out _ _ (V9.out.cell 3) (fun hS' => ?_)
                  clear hK9 hS hS' hown' hown2 hgrow hat hlt9 hb9
                  (try simp only [Act.put])
                  obtain ⟨p0, p1, p2, p3⟩ := four_cells V9.out
                  obtain ⟨f0, f1, f2, f3⟩ := four_frozen V9.out
                  refine wpAnyZ_take (i := 10) (v := ?vq10) rfl (by kernel_rfl) (by kernel_rfl) (by kernel_rfl) (by kernel_rfl) (fun _ _ _ h => HP0.out _ _ _ _ _ h) (Or.inl ⟨by kernel_rfl, ?yq10⟩) (by with_reducible assumption) ?rq10
                  case yq10 => (intro w hSw; (try dsimp only at hSw); go_simp; (try with_reducible rfl))
                  simp only [Act.put]
                  refine wpAnyZ_last (i := 11) (by kernel_rfl) rfl (by kernel_rfl) ?_
                  intro K11 hK11
                  go_simp
                  refine hK11.out _ _ ?_
                  clear hK11
                  go_wp2_with fail
                  go_roundw
                  case rel => exact ⟨k + 1, (c && (y0 && (y2 && y4))), okn, us ++ [st], some ⟨g', 0, none⟩, cap', n + 1, by omega, by go_num, rfl, (by show _ = _; rw [HOKN.out, hokk.out, Bool.and_assoc]), by have := HNK.out; omega, hul2, HPN, V10, O10, B10, hsz2, G10, hs10⟩
                  case measure => simp [intOf]; omega
              · have h58b : (((p[3]'hl3).toNat : Int) != 58) = true := by
                  rw [bne_iff_ne]
                  intro e
                  exact h58 (UInt8.toNat_inj.1 (by show _ = 58; omega))
                have HBAD := Lib.hid (part_colon (p := p.data.toList) (by
                  rw [List.getD_eq_getElem?_getD, List.getElem?_eq_getElem (by simp; omega)]
                  exact h58))
                have HR : Hid (parseV s.data.toList = noneV) := by
                  show _ = _
                  unfold parseV
                  rw [HP.out, HNE.out, partsS_bad hP.out HD.out HBAD.out]
                have R5 := Lib.hid (R3.out.below hB.out hs3)
                have BW := Lib.hid (below_on B3.out hB.out)
                obtain ⟨d0, d1, d2, d3⟩ := four_cells R5.out
                obtain ⟨f0, f1, f2, f3⟩ := four_frozen R5.out
                go_wp2_with fail
                refine HQ0.out _ _ _ ?_
                refine bodyPost_ret (results_2 rfl (Gives.row (g := w.heap.size) rfl (four_set R5.out _ _ _ _) Tryd.underlying26 rfl (by kernel_rfl)) (.tmp rfl)) rfl ?_
                exact none_end HR.out BW.out
            · have h5b : ((p.size : Int) != 5) = true := by rw [bne_iff_ne]; omega
              have HBAD := Lib.hid (part_short (p := p.data.toList) (by rw [← Lib.size_eq]; exact h5))
              have HR : Hid (parseV s.data.toList = noneV) := by
                show _ = _
                unfold parseV
                rw [HP.out, HNE.out, partsS_bad hP.out HD.out HBAD.out]
              have R5 := Lib.hid (R3.out.below hB.out hs3)
              have BW := Lib.hid (below_on B3.out hB.out)
              obtain ⟨d0, d1, d2, d3⟩ := four_cells R5.out
              obtain ⟨f0, f1, f2, f3⟩ := four_frozen R5.out
              go_wp2_with fail
              refine HQ0.out _ _ _ ?_
              refine bodyPost_ret (results_2 rfl (Gives.row (g := w.heap.size) rfl (four_set R5.out _ _ _ _) Tryd.underlying26 rfl (by kernel_rfl)) (.tmp rfl)) rfl ?_
              exact none_end HR.out BW.out
          · have hkn : k = n6 := by omega
            have hst : Hid (stepsP q3.data.toList = some (c, us)) := by
              show _ = _
              rw [HNE.out]
              exact partsS_done hP.out (by have h1 : (cutL 32 q3.data.toList).length = ps.length := by rw [← HPS.out]; simp
                                           have := HN6.out; omega)
            have hn : n ≤ 1048577 := by omega
            have hlt' : ¬ (k : Int) < (n6 : Int) := by omega
            clear hP hgk hS6 hkn hnk hk hlt
            go_upto_region 21 with fail
            have R5 := Lib.hid (R3.out.below hB.out hs3)
            have BW := Lib.hid (below_on B3.out hB.out)
            obtain ⟨d0, d1, d2, d3⟩ := four_cells R5.out
            obtain ⟨f0, f1, f2, f3⟩ := four_frozen R5.out
            cases okk with
            | false =>
              have HR : Hid (parseV s.data.toList = noneV) := by
                show _ = _
                unfold parseV
                rw [HP.out, hst.out]
                have : (b0 && (b1 && (b2 && c))) = false := by have h := hokk.out; rw [HOKD.out] at h; revert h; cases b0 <;> cases b1 <;> cases b2 <;> cases c <;> simp
                simp [this]
              go_wp2_with fail
              refine HQ0.out _ _ _ ?_
              refine bodyPost_ret (results_2 rfl (Gives.row (g := w.heap.size) rfl (four_set R5.out _ _ _ _) Tryd.underlying26 rfl (by kernel_rfl)) (.tmp rfl)) rfl ?_
              exact none_end HR.out BW.out
            | true =>
              have hall : (b0 && (b1 && (b2 && c))) = true := by have h := hokk.out; rw [HOKD.out] at h; revert h; cases b0 <;> cases b1 <;> cases b2 <;> cases c <;> simp
              have HALL := Lib.hid hall
              have IX : Hid (Ints wr wr.heap.size E1 xs) := (i1.below hB.out).more hB.out.size
              have IY : Hid (Ints wr wr.heap.size E2 ys) := (i2.below hB.out).more hB.out.size
              obtain ⟨E', cp', eE, SS⟩ := own_read4 hL.out hul hn (fun s hs => Nat.le_trans (hsz.out s hs) (by decide))
              rw [hul] at eE
              cases eE
              have IS := Lib.hid SS
              obtain ⟨r, hr⟩ : ∃ r, autoOk v0 xs ys us = r := ⟨_, rfl⟩
              have HRR := Lib.hid hr
              obtain ⟨p0, p1, p2, p3⟩ := four_cells hVb.out
              clear hall SS hr
              go_wp2_with fail
              have hcv := sAutomatonValid_is v0 E1 E2 E k1 k2 cp xs ys us r _ IX.out IY.out IS.out HRR.out
              rw [hul] at hcv
              refine hcv.mono ?_
              rintro e w8 ⟨rfl, hb8⟩
              have V8 := Lib.hid (blk_b hVb.out hb8.out)
              have R8 := Lib.hid (blk_b R5.out hb8.out)
              have B8 := Lib.hid (below_on BW.out hb8.out)
              have L8 := Lib.hid (own4_under hL.out hb8.out)
              have X8 := Lib.hid (own_under (own_under O1'.out (hB.out)) hb8.out)
              have Z8 := Lib.hid (own_under (own_under O2.out (hB.out)) hb8.out)
              clear hb8 hcv
              obtain ⟨p0, p1, p2, p3⟩ := four_cells V8.out
              obtain ⟨d0, d1, d2, d3⟩ := four_cells R8.out
              obtain ⟨f0, f1, f2, f3⟩ := four_frozen R8.out
              cases r with
              | false =>
                have HR : Hid (parseV s.data.toList = noneV) := by
                  show _ = _
                  unfold parseV
                  rw [HP.out, hst.out]
                  simp [HRR.out]
                go_wp2_with fail
                refine HQ0.out _ _ _ ?_
                refine bodyPost_ret (results_2 rfl (Gives.row (g := w.heap.size) rfl (four_set R8.out _ _ _ _) Tryd.underlying26 rfl (by kernel_rfl)) (.tmp rfl)) rfl ?_
                exact none_end HR.out B8.out
              | true =>
                have HR : Hid (parseV s.data.toList = ⟨v0, xs, ys, us, true⟩) := by
                  show _ = _
                  unfold parseV
                  rw [HP.out, hst.out]
                  simp only
                  rw [if_pos ⟨HALL.out, HRR.out⟩]
                go_wp2_with fail
                refine HQ0.out _ _ _ ?_
                refine bodyPost_ret (results_2 rfl (Gives.row (g := w.heap.size) rfl (four_set R8.out _ _ _ _) Tryd.underlying26 rfl (by kernel_rfl)) (.tmp rfl)) rfl ?_
                exact good_end HR.out B8.out X8.out Z8.out L8.out hul (by omega) (by omega) (by omega) (by
                  rcases hx : (Value.slice E1 xs.length k1).ownBlock with _ | j
                  · exact Or.inl rfl
                  · right
                    intro e
                    have h1 := D12.out j hx
                    have h2 := D2.out j e.symm
                    omega) hl1 hl2 hn hsz.out
  · have HR : Hid (parseV s.data.toList = noneV) := by
      show _ = _
      have hl : (cutL 59 s.data.toList).length = ps.length := by rw [← hps]; simp
      have hn : parseA s.data.toList = none := by
        unfold parseA
        split
        · rename_i heq
          rw [heq] at hl
          simp at hl
          omega
        · rfl
      unfold parseV
      rw [hn]
    obtain ⟨n4, hn4⟩ : ∃ n4, n4 = ps.length := ⟨_, rfl⟩
    have hne : ((n4 : Int) != 4) = true := by rw [bne_iff_ne]; omega
    rw [← hn4]
    clear hps hown hfew hcells hblk hpos h4 hb1 hn4
    obtain ⟨d0, d1, d2, d3⟩ := four_cells R1.out
    obtain ⟨f0, f1, f2, f3⟩ := four_frozen R1.out
    go_wp2_with fail
    refine HQ0.out _ _ _ ?_
    refine bodyPost_ret (results_2 rfl (Gives.row (g := w.heap.size) rfl (four_set R1.out _ _ _ _) Tryd.underlying26 rfl (by kernel_rfl)) (.tmp rfl)) rfl ?_
    exact none_end HR.out B1.out
end Go.Proofs.YtfdbbopanankgaaDoor
