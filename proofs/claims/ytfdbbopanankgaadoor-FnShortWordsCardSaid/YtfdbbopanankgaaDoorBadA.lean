/- Drawn states of an automaton: at most four, each below the number of states; the reader goes on; nothing that was there changes. Condition: at most 10^12 draws. The model's known automata, and what drawing an automaton leaves: few states and steps, in memory of the call's own. No condition. A drawn automaton of the model: few states and steps, in memory of the call's own; nothing that was there changes but the reader. Condition: at most 10^12 draws. A drawn automaton that may be spoilt, the model's: few states and steps, in memory of the call's own; nothing that was there changes but the reader. Condition: at most 10^12 draws. The model's drawn words, and an automaton with a word: a text of at most ten letters; in new memory; nothing that was there changes but the reader's place. No condition but that the reader is not at its end of counting. -/
import Derived.Test.YtfdbbopanankgaaDoorDraw1
import Derived.Test.YtfdbbopanankgaaDoorOwn
import Derived.Test.YtfdbbopanankgaaDoorCopyM
import Derived.Test.YtfdbbopanankgaaDoorParA
import Derived.Test.YtfdbbopanankgaaDoorPutS
import Derived.Test.YtfdbbopanankgaaDoorLastOp
namespace Go.Proofs.YtfdbbopanankgaaDoor
open Go.RowKit
set_option maxHeartbeats 1000000
set_option linter.unusedVariables false

/-- What a drawing function leaves that returns states. -/
def DrawnS (N : Nat) (B g : Nat) (A : Option Addr) (cap : Nat) (zs : List Int) (p K : Nat) (w : World) (e : Ending) (w' : World) : Prop :=
  ∃ (x : Value) (vs : List Int) (q : Nat), e = .returned x ∧ w'.ownsRow w.heap.size 3 1 x vs.length (vs.map (Value.int .i64)) ∧ vs.length ≤ N ∧ (∀ z ∈ vs, fits z) ∧ q ≤ p + K ∧ Rd w' B g A cap zs q ∧ w.grownBy w' (some g)

theorem some_any (w : World) (B g : Nat) (A : Option Addr) (cap : Nat) (zs : List Int) (p N : Nat) (hN : N ≤ 4) (h : Rd w B g A cap zs p) (hp : p + 4 ≤ 1000000000000) :
    Calls Tryd.prog 43 #[.pointer (some ⟨g, 0, none⟩), .int .i64 N] w fun e w' => DrawnS N B g A cap zs p N w e w' := by
  obtain ⟨i0, hi, hz0, hz1, hz2⟩ := info_parts info_int
  have Z0 := Lib.hid hz0
  have Z1 := Lib.hid hz1
  have Z2 := Lib.hid hz2
  have ZI := Lib.hid hi
  clear hz0 hz1 hz2 hi
  have hgw := h.lt
  have R1 := Lib.hid (h.alloc (.cells #[] 3))
  have G1 := Lib.hid (World.grownBy_alloc w (.cells #[] 3) (some g))
  have O1 := Lib.hid ((World.ownsRow_lit w #[] 0 (Nat.le_refl _) (Nat.zero_le _) rfl : (w.alloc (.cells #[] 3)).ownsRow w.heap.size 3 1 (.slice (some ⟨w.heap.size, 0, none⟩) 0 0) 0 []))
  clear h
  go_enter Tryd.func43, Tryd.ntmps43
  go_wp2_with fail
  go_loopw [5, 9] (fun x i wr => ∃ (k : Nat) (vs : List Int) (q : Nat), k ≤ N ∧ i = .int .i64 k ∧ Hid (vs.length ≤ k) ∧ Hid (wr.ownsRow w.heap.size 3 1 x vs.length (vs.map (Value.int .i64))) ∧ Hid (∀ z ∈ vs, fits z) ∧ q ≤ p + k ∧ Hid (Rd wr B g A cap zs q) ∧ Hid (w.grownBy wr (some g))) (fun _ i _ => N - (intOf i).toNat)
  case atStart => exact ⟨0, [], p, Nat.zero_le _, rfl, Nat.le_refl _, O1, (fun z hz => by cases hz), by omega, R1, G1⟩
  case round =>
    obtain ⟨k, vs, q, hk, rfl, HL, HO, HF, hq, HR, HG⟩ := hrel
    by_cases hlt : k < N
    · go_wp2_with fail
      refine (pick_any _ _ _ _ _ _ _ _ HR.out (by omega)).mono ?_
      rintro e w2 ⟨v, rfl, v0, v1, hoff, hrd⟩
      have O3 := Lib.hid (own_far HO.out hoff.grown hgw)
      have G3 := Lib.hid (grow_trans HG.out hoff.grown)
      have R3 := Lib.hid (hrd (by omega))
      clear hrd hoff v0 v1 HO HG HR
      rcases Bool.eq_false_or_eq_true (v == 0) with hbad | hbad
      · go_wp2_with (at_builtin; refine wpList_append_own _ rfl _ _ 23 rfl w.heap.size 3 i0 (.int .i64 0) 1 8 Tryd.underlying23 ZI.out Z0.out Z1.out Z2.out rfl (by decide) _ _ _ rfl (O3.out.alloc _) ⟨w2.heap.size, 0, none⟩ 1 1 [.int .i64 (k : Int)] rfl rfl ?c1 ?c2 ?c3 ?c4 ?c5 ?_)
        case c1 =>
          intro j u hj
          match j, hj with
          | 0, hj => simp at hj; subst hj; simp [Addr.add]
        case c2 => intro u hu; simp at hu; subst hu; rfl
        case c3 => have := HL.out; unfold maxLen; omega
        case c4 => have := HL.out; omega
        case c5 => have := G3.out.size; simp; omega
        · intro v' w5 hown' hgrow _
          have hg5 := grow_own (grow_trans G3.out (World.grownBy_alloc _ _ _)) hgrow (fun j hj => (O3.out.lt j hj).1)
          have hr5 := (R3.out.alloc (.cells #[.int .i64 (k : Int)] 3)).grown hgrow (fun j hj => by have := (O3.out.lt j hj).1; omega)
          rw [snoc_map] at hown'
          have O5 := Lib.hid hown'
          have G5 := Lib.hid hg5
          have R5 := Lib.hid hr5
          clear hown' hgrow hg5 hr5
          go_wp2
          go_roundw
          case rel =>
            refine ⟨k + 1, vs ++ [(k : Int)], q + 1, by omega, by go_num, by have := HL.out; show (vs ++ [(k : Int)]).length ≤ k + 1; simp; omega, ?_, ?_, by omega, R5, G5⟩
            · show World.ownsRow _ _ _ _ _ _ _; rw [List.length_append]; exact O5.out
            · intro z hz
              rcases List.mem_append.1 hz with hz | hz
              · exact HF.out z hz
              · rw [List.mem_singleton.1 hz]; exact ⟨by omega, by omega⟩
          case measure => simp [intOf]; omega
      · go_wp2_with fail
        go_roundw
        case rel => exact ⟨k + 1, vs, q + 1, by omega, by go_num, Nat.le_succ_of_le HL.out, O3, HF, by omega, R3, G3⟩
        case measure => simp [intOf]; omega
    · go_wp2
      go_ret
      exact ⟨_, vs, q, rfl, HO.out, by have := HL.out; omega, HF.out, by omega, HR.out, HG.out⟩
end Go.Proofs.YtfdbbopanankgaaDoor
namespace Go.Proofs.YtfdbbopanankgaaDoor
open Go.RowKit
set_option maxHeartbeats 4000000
set_option maxRecDepth 100000
set_option linter.unusedVariables false

theorem gba {w w' : World} (h : Below w.heap.size w w') (r : Option Nat) : w.grownBy w' r := ⟨h.os, h.tape, h.output, h.size, fun k hk _ => h.block k hk⟩
/-- What every drawn automaton keeps to. -/
def AFew (xs ys : List Int) (ss : List StepD) : Prop := xs.length ≤ 8 ∧ ys.length ≤ 8 ∧ ss.length ≤ 40 ∧ ∀ s ∈ ss, s.le.size ≤ 1
theorem marks_len {n : Int} : ∀ (l : List Int) (last : Int), marksF n last l = true → l = [] ∨ (l.length : Int) ≤ n - 1 - last
  | [], _, _ => Or.inl rfl
  | p :: ps, last, h => by
    unfold marksF at h
    simp only [Bool.and_eq_true, decide_eq_true_eq] at h
    right
    rcases marks_len ps p h.2.2 with e | e
    · subst e; simp; omega
    · simp; omega
theorem auto_few {m : Int} {xs ys : List Int} {ss : List StepD} (h : autoOk m xs ys ss = true) : AFew xs ys ss := by
  obtain ⟨n, rfl, n1, n4, _, _, h24, hst⟩ := auto_in h
  unfold autoOk at h
  simp only [Bool.and_eq_true, decide_eq_true_eq] at h
  obtain ⟨_, h3, h4, _, _⟩ := h
  refine ⟨?_, ?_, by omega, fun s hs => ?_⟩
  · rcases marks_len xs _ h3 with e | e
    · subst e; simp
    · omega
  · rcases marks_len ys _ h4 with e | e
    · subst e; simp
    · omega
  · rcases (mvOk_of n4 (hst s hs)).2.2.2.2 with e | e <;> rw [e] <;> decide
theorem parseA_ok {l : List UInt8} {m : Int} {xs ys : List Int} {ss : List StepD} (h : parseA l = some (m, xs, ys, ss)) : autoOk m xs ys ss = true := by
  unfold parseA at h
  split at h
  · split at h
    · split at h
      · rename_i hc
        cases h
        exact hc.2
      · cases h
    · cases h
  · cases h
theorem parse_few (l : List UInt8) : AFew (parseV l).xs (parseV l).ys (parseV l).ss := by
  unfold parseV
  rcases h : parseA l with _ | ⟨m, xs, ys, ss⟩
  · exact ⟨by simp [noneV], by simp [noneV], by simp [noneV], fun s hs => by cases hs⟩
  · exact auto_few (parseA_ok h)
theorem AOwn.forms {w : World} {B : Nat} {x1 x2 x3 : Value} {xs ys : List Int} {ss : List StepD} (h : AOwn w B x1 x2 x3 xs ys ss) : ∃ A1 c1 A2 c2 A3 c3, x1 = .slice A1 xs.length c1 ∧ x2 = .slice A2 ys.length c2 ∧ x3 = .slice A3 ss.length c3 := by
  obtain ⟨h1, h2, h3, _, n1, n2, n3, hs⟩ := h
  obtain ⟨A1, c1, rfl, _, _⟩ := own_ints h1 (by unfold maxLen; omega)
  obtain ⟨A2, c2, rfl, _, _⟩ := own_ints h2 (by unfold maxLen; omega)
  obtain ⟨A3, c3, rfl, _⟩ := own_read4 h3 rfl n3 hs
  exact ⟨A1, c1, A2, c2, A3, c3, rfl, rfl, rfl⟩
def EndF (w : World) (e : Ending) (w' : World) : Prop :=
  ∃ (m : Int) (x1 x2 x3 : Value) (xs ys : List Int) (ss : List StepD) (ok : Bool), e = .returned (.tuple #[.agg #[.int .i64 m, x1, x2, x3], .bool ok]) ∧ Hid (AOwn w' w.heap.size x1 x2 x3 xs ys ss) ∧ Hid (AFew xs ys ss) ∧ Hid (Below w.heap.size w w')
theorem parF_any (s : ByteArray) (w : World) (hs : s.size ≤ 1048576) :
    Calls Tryd.prog 56 #[.string s] w fun e w' => EndF w e w' := by
  refine (sParA_any s w hs).mono ?_
  rintro e w' ⟨x1, x2, x3, rfl, ho, hb⟩
  exact ⟨_, x1, x2, x3, _, _, _, _, rfl, ho, parse_few _, hb⟩
theorem AOwn.base {w : World} {B B' : Nat} {x1 x2 x3 : Value} {xs ys : List Int} {ss : List StepD} (h : AOwn w B x1 x2 x3 xs ys ss) (hb : B' ≤ B) : AOwn w B' x1 x2 x3 xs ys ss :=
  ⟨own_base h.1 hb, own_base h.2.1 hb, own4_base h.2.2.1 hb, h.2.2.2⟩
theorem own_any {w w' : World} {base g n k : Nat} {t : TypeId} {x : Value} {xs : List Value} (h : w.ownsRow base t k x n xs) (hg : w.grownBy w' (some g)) (hlt : g < base) : w'.ownsRow base t k x n xs :=
  h.kept hg (own_ne (fun j hj e => by cases e; have := (h.lt _ hj).1; omega))
theorem AOwn.grown {w w' : World} {B g : Nat} {x1 x2 x3 : Value} {xs ys : List Int} {ss : List StepD} (h : AOwn w B x1 x2 x3 xs ys ss) (hg : w.grownBy w' (some g)) (hlt : g < B) : AOwn w' B x1 x2 x3 xs ys ss :=
  ⟨own_any h.1 hg hlt, own_any h.2.1 hg hlt, own_any h.2.2.1 hg hlt, h.2.2.2⟩
theorem fourV_grow (w : World) (g : Nat) (m : Int) (x1 x2 x3 : Value) : w.grownBy (fourV w g m x1 x2 x3) (some g) := four_grow w g _ _ _ _

/-- What a known automaton leaves. -/
def DrawnK (w : World) (e : Ending) (w' : World) : Prop :=
  ∃ (m : Int) (x1 x2 x3 : Value) (xs ys : List Int) (ss : List StepD), e = .returned (.agg #[.int .i64 m, x1, x2, x3]) ∧ Hid (AOwn w' (w.heap.size + 1) x1 x2 x3 xs ys ss) ∧ Hid (AFew xs ys ss) ∧ Hid (Below w.heap.size w w')
theorem known_any (k : Nat) (hk : k < 9) (w : World) :
    Calls Tryd.prog 42 #[.int .i64 k] w fun e w' => DrawnK w e w' := by
  have h9 : k = 0 ∨ k = 1 ∨ k = 2 ∨ k = 3 ∨ k = 4 ∨ k = 5 ∨ k = 6 ∨ k = 7 ∨ k = 8 := by omega
  clear hk
  rcases h9 with rfl | rfl | rfl | rfl | rfl | rfl | rfl | rfl | rfl
  all_goals
    go_enter Tryd.func42, Tryd.ntmps42
    go_wp2_with fail
    refine (parF_any _ _ (by decide)).mono ?_
    rintro e w2 ⟨m, x1, x2, x3, xs, ys, ss, ok, rfl, ho, hf, hb⟩
    obtain ⟨A1, c1, A2, c2, A3, c3, rfl, rfl, rfl⟩ := ho.out.forms
    have R2 := Lib.hid (blk_b ((Blk.new w 26 #[.int .i64 0, .slice none 0 0, .slice none 0 0, .slice none 0 0]).alloc _) hb.out)
    have B2 := Lib.hid (below_on (below_a2 w _ _) hb.out)
    have HO := Lib.hid (AOwn.base ho.out (B' := w.heap.size + 1) (by simp))
    clear ho hb
    have hs2 := Blk.lt R2.out
    obtain ⟨w3, hw3⟩ : ∃ x, x = w2.alloc (.cells #[.int .i64 m, .slice A1 xs.length c1, .slice A2 ys.length c2, .slice A3 ss.length c3] 26) := ⟨_, rfl⟩
    have R3 : Hid (Blk w3 w.heap.size 26 #[.int .i64 0, .slice none 0 0, .slice none 0 0, .slice none 0 0]) := by rw [hw3]; exact R2.out.alloc _
    have V3 : Hid (Blk w3 w2.heap.size 26 #[.int .i64 m, .slice A1 xs.length c1, .slice A2 ys.length c2, .slice A3 ss.length c3]) := by rw [hw3]; exact Blk.new _ _ _
    have B3 : Hid (Below w.heap.size w w3) := by rw [hw3]; exact below_al B2.out (Nat.le_refl _) _
    have O3 : Hid (AOwn w3 (w.heap.size + 1) (.slice A1 xs.length c1) (.slice A2 ys.length c2) (.slice A3 ss.length c3) xs ys ss) := by rw [hw3]; exact HO.out.grown (World.grownBy_alloc _ _ (some w.heap.size)) (Nat.lt_succ_self _)
    go_upto_region 3 with fail
    rw [← hw3]
    clear hw3 HO R2 B2
    obtain ⟨d0, d1, d2, d3⟩ := four_cells R3.out
    obtain ⟨f0, f1, f2, f3⟩ := four_frozen R3.out
    obtain ⟨p0, p1, p2, p3⟩ := four_cells V3.out
    go_wp2_with fail
    refine bodyPost_ret (results_1 rfl (Gives.row (g := w.heap.size) rfl (four_set R3.out _ _ _ _) Tryd.underlying26 rfl (by kernel_rfl))) rfl ?_
    exact ⟨m, _, _, _, xs, ys, ss, rfl, O3.out.grown (fourV_grow _ _ m _ _ _) (Nat.lt_succ_self _), hf, B3.out.grown (fourV_grow _ w.heap.size m _ _ _) B3.out.size (fun j hj => by cases hj; exact Nat.le_refl _)⟩
end Go.Proofs.YtfdbbopanankgaaDoor
namespace Go.Proofs.YtfdbbopanankgaaDoor
open Go.RowKit
set_option maxHeartbeats 8000000
set_option maxRecDepth 100000
set_option linter.unusedVariables false

/-- What a drawing function leaves that returns a text of a list. -/
def DrawnO (B g : Nat) (A : Option Addr) (cap : Nat) (zs : List Int) (p K : Nat) (P : ByteArray → Prop) (w : World) (e : Ending) (w' : World) : Prop :=
  ∃ (v : ByteArray) (q : Nat), e = .returned (.string v) ∧ P v ∧ q ≤ p + K ∧ Rd w' B g A cap zs q ∧ w.grownBy w' (some g)

theorem ofs_any (w : World) (B g l : Nat) (A : Option Addr) (cap : Nat) (zs : List Int) (p n : Nat) (vs : List ByteArray) (h : Rd w B g A cap zs p) (hp : p + 1 ≤ 1000000000000) (hn : n = vs.length) (h1 : 1 ≤ n) (hN : n ≤ 1000) (hlg : ¬ l = g)
    (hrow : ∀ k, k < n → w.cell? ⟨l, k, none⟩ = some (.string (vs.getD k ByteArray.empty))) :
    Calls Tryd.prog 41 #[.pointer (some ⟨g, 0, none⟩), .slice (some ⟨l, 0, none⟩) n n] w fun e w' => DrawnO B g A cap zs p 1 (fun v => v ∈ vs) w e w' := by
  have HR := Lib.hid hrow
  have HN := Lib.hid hn
  clear hrow hn
  have hn' : (n : Int) ≤ 1000000000000 := by omega
  go_enter Tryd.func41, Tryd.ntmps41
  go_wp2_with fail
  refine (pick_any _ _ _ _ _ _ _ _ h hn').mono ?_
  rintro e w1 ⟨v, rfl, v0, v1, hoff, hrd⟩
  obtain ⟨k, rfl⟩ := Int.eq_ofNat_of_zero_le v0
  have hkn : k < n := by have := v1 (by omega); omega
  have hrd1 := hrd hp
  clear hrd v1
  have hcell : w1.cell? ⟨l, k, none⟩ = some (.string (vs.getD k ByteArray.empty)) := (World.cell?_of_block (hoff.block l hlg)).trans (HR.out k hkn)
  obtain ⟨x, hx⟩ : ∃ x, x = vs.getD k ByteArray.empty := ⟨_, rfl⟩
  rw [← hx] at hcell
  have HX := Lib.hid hx
  have HO := Lib.hid hoff
  have HD := Lib.hid hrd1
  clear hx hoff hrd1 v0
  go_wp2
  go_ret
  refine ⟨x, p + 1, rfl, ?_, Nat.le_refl _, HD.out, HO.out.grown⟩
  rw [HX.out, List.getD_eq_getElem?_getD, List.getElem?_eq_getElem (by rw [← HN.out]; exact hkn)]
  exact List.getElem_mem _
theorem row_strsO (w : World) (vs : List ByteArray) : ∀ k, k < vs.length → (w.alloc (.cells (vs.map Value.string).toArray 9)).cell? ⟨w.heap.size, k, none⟩ = some (.string (vs.getD k ByteArray.empty)) := by
  intro k hk
  rw [(Blk.new w 9 _).cell k]
  rw [List.getElem?_toArray, List.getElem?_map, List.getElem?_eq_getElem hk, List.getD_eq_getElem?_getD, List.getElem?_eq_getElem hk]
  rfl

theorem putL_few (s : StepD) : ∀ l : List StepD, (putL l s).length ≤ l.length + 1
  | [] => by simp [putL]
  | t :: ts => by
    unfold putL
    split
    · simp; exact putL_few s ts
    · split <;> simp
theorem letter_small {le : ByteArray} (h : le ∈ [(⟨#[97]⟩ : ByteArray), ⟨#[98]⟩]) : IsL le := by
  simp at h
  exact h

/-- What a drawing function leaves that returns an automaton. -/
def DrawnU (base B g : Nat) (A : Option Addr) (cap : Nat) (zs : List Int) (p K : Nat) (w : World) (e : Ending) (w' : World) : Prop :=
  ∃ (m : Int) (x1 x2 x3 : Value) (xs ys : List Int) (ss : List StepD) (q : Nat), e = .returned (.agg #[.int .i64 m, x1, x2, x3]) ∧ Hid (AOwn w' base x1 x2 x3 xs ys ss) ∧ Hid (AFew xs ys ss) ∧ q ≤ p + K ∧ Hid (Rd w' B g A cap zs q) ∧ Hid (w.grownBy w' (some g))

/-- The automaton that is being drawn: the variable, its rows, the result's place. -/
structure LD (base R V g : Nat) (n : Int) (x1 x2 : Value) (xs ys : List Int) (g' n' cp : Nat) (us : List StepD) (w : World) : Prop where
  blkV : Blk w V 26 #[.int .i64 n, x1, x2, .slice (some ⟨g', 0, none⟩) n' cp]
  blkR : Blk w R 26 #[.int .i64 0, .slice none 0 0, .slice none 0 0, .slice none 0 0]
  row : w.ownsRow base 75 4 (.slice (some ⟨g', 0, none⟩) n' cp) n' (flatS us)
  o1 : w.ownsRow base 3 1 x1 xs.length (xs.map (Value.int .i64))
  o2 : w.ownsRow base 3 1 x2 ys.length (ys.map (Value.int .i64))
  gb : g < base
  Rb : R < base
  nV : ¬ V = g
  nR : ¬ R = g
  nRV : ¬ R = V
section
variable {base R V g : Nat} {n : Int} {x1 x2 : Value} {xs ys : List Int} {g' n' cp : Nat} {us : List StepD} {w w' : World}
theorem LD.grown (h : LD base R V g n x1 x2 xs ys g' n' cp us w) (hg : w.grownBy w' (some g)) : LD base R V g n x1 x2 xs ys g' n' cp us w' :=
  ⟨h.blkV.stay hg (fun e => h.nV (Option.some.inj e)), h.blkR.stay hg (fun e => h.nR (Option.some.inj e)), own_any h.row hg h.gb, own_any h.o1 hg h.gb, own_any h.o2 hg h.gb, h.gb, h.Rb, h.nV, h.nR, h.nRV⟩
theorem LD.al (h : LD base R V g n x1 x2 xs ys g' n' cp us w) (o : Obj) : LD base R V g n x1 x2 xs ys g' n' cp us (w.alloc o) := h.grown (World.grownBy_alloc w o (some g))
theorem LD.put {g2 n2 cp2 base2 : Nat} {us2 : List StepD} (h : LD base R V g n x1 x2 xs ys g' n' cp us w) (r : w.ownsRow base2 75 4 (.slice (some ⟨g2, 0, none⟩) n2 cp2) n2 (flatS us2)) (hb : base ≤ base2) :
    LD base R V g n x1 x2 xs ys g2 n2 cp2 us2 (w.setCell ⟨V, 3, none⟩ (.slice (some ⟨g2, 0, none⟩) n2 cp2)) :=
  ⟨h.blkV.set_ 3 _, h.blkR.other V 3 _ (fun e => h.nRV e.symm), own4_base (r.kept (grow_set w V 3 _) (own_ne (fun j hj e => own_ne_blk r h.blkV (by decide) (e.trans hj.symm)))) hb,
   h.o1.kept (grow_set w V 3 _) (own_ne (fun j hj e => own_ne_blk h.o1 h.blkV (by decide) (e.trans hj.symm))), h.o2.kept (grow_set w V 3 _) (own_ne (fun j hj e => own_ne_blk h.o2 h.blkV (by decide) (e.trans hj.symm))), h.gb, h.Rb, h.nV, h.nR, h.nRV⟩
end
theorem draw_any (w : World) (B g : Nat) (A : Option Addr) (cap : Nat) (zs : List Int) (p most : Nat) (h : Rd w B g A cap zs p) (hp : p + 100 ≤ 1000000000000) (m1 : 1 ≤ most) (m4 : most ≤ 4) :
    Calls Tryd.prog 26 #[.pointer (some ⟨g, 0, none⟩), .int .i64 most] w fun e w' => DrawnU w.heap.size B g A cap zs p 60 w e w' := by
  have hgw := h.lt
  go_enter Tryd.func26, Tryd.ntmps26
  go_wp2_with fail
  refine (pick_any _ _ _ _ _ _ _ _ (h.alloc _) (by omega)).mono ?_
  rintro e w2 ⟨v, rfl, v0, v1, hoff, hrd⟩
  have D2 := Lib.hid (hrd (by omega))
  have R2 : Hid (Blk w2 w.heap.size 26 #[.int .i64 0, .slice none 0 0, .slice none 0 0, .slice none 0 0]) := Blk.stay (Blk.new w _ _) hoff.grown (fun e => by cases e; omega)
  have G2 := Lib.hid (grow_trans (World.grownBy_alloc w (.cells #[.int .i64 0, .slice none 0 0, .slice none 0 0, .slice none 0 0] 26) (some g)) hoff.grown)
  obtain ⟨q2, hq2⟩ : ∃ x, x = p + 1 := ⟨_, rfl⟩
  rw [← hq2] at D2
  clear hrd hoff v0 v1 h
  rcases Bool.eq_false_or_eq_true (v == 0) with hv | hv
  case' inl =>
    go_wp2_with fail
    refine (pick_any _ _ _ _ _ _ _ _ D2.out (by omega)).mono ?_
    rintro e w3 ⟨v', rfl, v0, v1, hoff, hrd⟩
    obtain ⟨k, rfl⟩ := Int.eq_ofNat_of_zero_le v0
    have hk : k < 9 := by have := v1 (by omega); omega
    have D3 := Lib.hid (hrd (by omega))
    have R3 := Lib.hid (R2.out.stay hoff.grown (fun e => by cases e; omega))
    have G3 := Lib.hid (grow_trans G2.out hoff.grown)
    clear hrd hoff v0 v1 D2 R2 G2
    go_wp2_with fail
    refine (known_any k hk _).mono ?_
    rintro e w4 ⟨m, x1, x2, x3, xs, ys, ss, rfl, ho, hf, hb⟩
    obtain ⟨A1, c1, A2, c2, A3, c3, rfl, rfl, rfl⟩ := ho.out.forms
    obtain ⟨wb, hwb⟩ : ∃ x, x = w4.alloc (.cells #[.int .i64 m, .slice A1 xs.length c1, .slice A2 ys.length c2, .slice A3 ss.length c3] 26) := ⟨_, rfl⟩
    have D4 : Hid (Rd wb B g A cap zs (q2 + 1)) := by rw [hwb]; exact (D3.out.grown (gba hb.out none) (fun k hk => by cases hk)).alloc _
    have R4 : Hid (Blk wb w.heap.size 26 #[.int .i64 0, .slice none 0 0, .slice none 0 0, .slice none 0 0]) := by rw [hwb]; exact (blk_b R3.out hb.out).alloc _
    have V4 : Hid (Blk wb w4.heap.size 26 #[.int .i64 m, .slice A1 xs.length c1, .slice A2 ys.length c2, .slice A3 ss.length c3]) := by rw [hwb]; exact Blk.new _ _ _
    have G4 : Hid (w.grownBy wb (some g)) := by rw [hwb]; exact grow_trans (grow_trans G3.out (gba hb.out (some g))) (World.grownBy_alloc w4 _ (some g))
    have h3 : w.heap.size < w3.heap.size + 1 := by have := Blk.lt R3.out; omega
    have O4 : Hid (AOwn wb (w.heap.size + 1) (.slice A1 xs.length c1) (.slice A2 ys.length c2) (.slice A3 ss.length c3) xs ys ss) := by rw [hwb]; exact (ho.out.base (B' := w.heap.size + 1) (by omega)).grown (World.grownBy_alloc _ _ (some w.heap.size)) (Nat.lt_succ_self _)
    clear ho hb D3 R3 G3 h3
    go_upto_region 3 with fail
    rw [← hwb]
    clear hwb
    obtain ⟨p0, p1, p2, p3⟩ := four_cells V4.out
    obtain ⟨d0, d1, d2, d3⟩ := four_cells R4.out
    obtain ⟨f0, f1, f2, f3⟩ := four_frozen R4.out
    by_cases hm : m ≤ (most : Int)
    case pos =>
      go_wp2_with fail
      refine bodyPost_ret (results_1 rfl (Gives.row (g := w.heap.size) rfl (four_set R4.out _ _ _ _) Tryd.underlying26 rfl (by kernel_rfl))) rfl ?_
      exact ⟨m, _, _, _, xs, ys, ss, q2 + 1, rfl, (O4.out.grown (fourV_grow _ _ m _ _ _) (Nat.lt_succ_self _)).base (Nat.le_succ _), hf, by omega, D4.out.grown (fourV_grow _ w.heap.size m _ _ _) (fun j hj => by cases hj; omega), grow_own G4.out (fourV_grow _ w.heap.size m _ _ _) (fun j hj => by cases hj; exact Nat.le_refl _)⟩
    have hm' : ¬ m ≤ (most : Int) := hm
    clear hm
    go_wp2_with fail
    obtain ⟨qb, hqb⟩ : ∃ x, x = q2 + 1 := ⟨_, rfl⟩
    rw [← hqb] at D4
    have Db := D4
    have Rb := R4
    have Gb := G4
    have hqb' : qb ≤ p + 2 := by omega
    clear D4 R4 G4 O4 V4 hf hqb hq2 hm' p0 p1 p2 p3 d0 d1 d2 d3 f0 f1 f2 f3 hv
  case' inr =>
    go_wp2_with fail
    obtain ⟨wb, hwb⟩ : ∃ x, x = w2 := ⟨_, rfl⟩
    rw [← hwb] at D2 R2 G2 ⊢
    obtain ⟨qb, hqb⟩ : ∃ x, x = q2 := ⟨_, rfl⟩
    rw [← hqb] at D2
    have Db := D2
    have Rb := R2
    have Gb := G2
    have hqb' : qb ≤ p + 2 := by omega
    clear D2 R2 G2 hwb hqb hq2 hv
  all_goals
    refine (pick_any _ _ _ _ _ _ _ _ Db.out (by omega)).mono ?_
    rintro e w5 ⟨v5, rfl, v0, v1, hoff, hrd⟩
    obtain ⟨k, rfl⟩ := Int.eq_ofNat_of_zero_le v0
    have hkm : k < most := by have := v1 (by omega); omega
    obtain ⟨N, hN⟩ : ∃ N, N = 1 + k := ⟨_, rfl⟩
    have h1N : 1 + (k : Int) = (N : Int) := by omega
    have n1 : 1 ≤ N := by omega
    have n4 : N ≤ 4 := by omega
    have D5 := Lib.hid (hrd (by omega))
    have R5 := Lib.hid (Rb.out.stay hoff.grown (fun e => by cases e; omega))
    have G5 := Lib.hid (grow_trans Gb.out hoff.grown)
    have hs5 : w.heap.size < w5.heap.size := Blk.lt R5.out
    clear hrd hoff v0 v1 Db Rb Gb hN
    go_wp2_with fail
    refine (some_any _ B g A cap zs _ N n4 D5.out (by omega)).mono ?_
    rintro e w6 ⟨_, xs, q6, rfl, ho1, hl1, hf1, hq6, hrd6, hg6⟩
    obtain ⟨E1, k1, rfl, _, _⟩ := own_ints ho1 (by unfold maxLen; omega)
    have hs6 : w5.heap.size ≤ w6.heap.size := hg6.size
    have D6 := Lib.hid hrd6
    have R6 := Lib.hid (R5.out.stay hg6 (fun e => by cases e; omega))
    have G6 := Lib.hid (grow_trans G5.out hg6)
    have O6 : Hid (w6.ownsRow (w.heap.size + 1) 3 1 (.slice E1 xs.length k1) xs.length (xs.map (Value.int .i64))) := own_base ho1 (by omega)
    have X6 : Hid (∀ j, (Value.slice E1 xs.length k1).ownBlock = some j → j < w6.heap.size) := fun j hj => (ho1.lt j hj).2
    clear hrd6 ho1 hg6 hf1 D5 R5 G5 h1N
    go_wp2_with fail
    refine (some_any _ B g A cap zs _ N n4 D6.out (by omega)).mono ?_
    rintro e w7 ⟨_, ys, q7, rfl, ho2, hl2, hf2, hq7, hrd7, hg7⟩
    obtain ⟨E2, k2, rfl, _, _⟩ := own_ints ho2 (by unfold maxLen; omega)
    have hs7 : w6.heap.size ≤ w7.heap.size := hg7.size
    have HD : Hid ((Value.slice E1 xs.length k1).ownBlock = none ∨ (Value.slice E1 xs.length k1).ownBlock ≠ (Value.slice E2 ys.length k2).ownBlock) := by
      rcases hx : (Value.slice E1 xs.length k1).ownBlock with _ | j
      · exact Or.inl rfl
      · right
        intro e
        have h1 := X6.out j hx
        have h2 := (ho2.lt j e.symm).1
        omega
    obtain ⟨V, hV⟩ : ∃ V, V = w7.heap.size + 1 := ⟨_, rfl⟩
    obtain ⟨w8, hw8⟩ : ∃ x, x = (w7.alloc (.cells #[] 75)).alloc (.cells #[.int .i64 N, (.slice E1 xs.length k1), (.slice E2 ys.length k2), .slice (some ⟨w7.heap.size, 0, none⟩) 0 0] 26) := ⟨_, rfl⟩
    have V8 : Blk w8 V 26 #[.int .i64 N, (.slice E1 xs.length k1), (.slice E2 ys.length k2), .slice (some ⟨w7.heap.size, 0, none⟩) 0 0] := by rw [hw8]; exact blk_new (by rw [hV]; simp)
    have K8 : w7.grownBy w8 (some g) := by rw [hw8]; exact grow_trans (World.grownBy_alloc w7 _ (some g)) (World.grownBy_alloc _ _ (some g))
    have K9 : w7.grownBy w8 none := by rw [hw8]; exact grow_trans (World.grownBy_alloc w7 _ none) (World.grownBy_alloc _ _ none)
    have L8 : Hid (LD (w.heap.size + 1) w.heap.size V g N (.slice E1 xs.length k1) (.slice E2 ys.length k2) xs ys w7.heap.size 0 0 [] w8) :=
      ⟨V8, Blk.stay (R6.out.stay hg7 (fun e => by cases e; omega)) K8 (fun e => by cases e; omega),
       by rw [hw8]; exact own4_base (World.ownsRow.alloc (World.ownsRow_lit w7 #[] 0 (Nat.le_refl _) (Nat.zero_le _) rfl) _) (by omega),
       own_any (own_any O6.out hg7 (by omega)) K8 (by omega), own_any (own_base ho2 (base' := w.heap.size + 1) (by omega)) K8 (by omega), by omega, by omega, by omega, by omega, by omega⟩
    have D8 := Lib.hid (Rd.grown hrd7 K9 (fun k hk => by cases hk))
    have G8 := Lib.hid (grow_trans (grow_trans G6.out hg7) K8)
    have hs8 : V < w8.heap.size := Blk.lt V8
    have HVg : w.heap.size + 1 ≤ V := by omega
    clear hrd7 ho2 hg7 hf2 D6 R6 G6 O6 X6 K8 K9 V8
    go_wp2_with fail
    rw [← hw8]
    clear hw8
    refine (pick_any _ _ _ _ _ _ _ _ D8.out (by omega)).mono ?_
    rintro e w9 ⟨v9, rfl, v0, v1, hoff, hrd⟩
    obtain ⟨c, rfl⟩ := Int.eq_ofNat_of_zero_le v0
    have hc9 : c < 2 * N + 1 := by have := v1 (by omega); omega
    obtain ⟨C, hC⟩ : ∃ C, C = 1 + c := ⟨_, rfl⟩
    have h1C : 1 + (c : Int) = (C : Int) := by omega
    have hC9 : C ≤ 9 := by omega
    have D9 := Lib.hid (hrd (by omega))
    have L9 := Lib.hid (L8.out.grown hoff.grown)
    have G9 := Lib.hid (grow_trans G8.out hoff.grown)
    obtain ⟨q9, hq9⟩ : ∃ x, x = q7 + 1 := ⟨_, rfl⟩
    rw [← hq9] at D9
    have hq9' : q9 ≤ p + 12 := by omega
    clear hrd hoff v0 v1 D8 L8 G8 hC hq9
    rw [← hV]
    have HVV := Lib.hid hV
    clear hV
    go_wp2_with fail
    go_loopw [39] (fun i wr => ∃ (k n' cp g' q : Nat) (us : List StepD), k ≤ C ∧ i = .int .i64 k ∧ Hid (us.length = n') ∧ n' ≤ k ∧ Hid (LD (w.heap.size + 1) w.heap.size V g N (.slice E1 xs.length k1) (.slice E2 ys.length k2) xs ys g' n' cp us wr) ∧ Hid (∀ t ∈ us, mvOk t) ∧ Hid (us.Pairwise fun x y => code x < code y) ∧ q ≤ q9 + 4 * k ∧ Hid (Rd wr B g A cap zs q) ∧ Hid (w.grownBy wr (some g))) (fun i _ => C - (intOf i).toNat)
    case atStart => exact ⟨0, 0, 0, _, q9, [], Nat.zero_le _, rfl, rfl, Nat.zero_le _, L9, (fun t ht => by cases ht), List.Pairwise.nil, by omega, D9, G9⟩
    case round =>
      clear L9 D9 G9 hC9
      obtain ⟨k, n', cp, g', q, us, hk, rfl, hul, hnk, hL, hmv, hpw, hq, hD, hG⟩ := hrel
      have hC9 : C ≤ 9 := by omega
      by_cases hlt : k < C
      · go_wp2_with fail
        refine (pick_any _ _ _ _ _ _ _ _ hD.out (by omega)).mono ?_
        rintro e a1 ⟨fr, rfl, v0, v1, hoff, hrd⟩
        have hfr : fr < (N : Int) := v1 (by omega)
        have D1 := Lib.hid ((hrd (by omega)).alloc (.cells ([(⟨#[97]⟩ : ByteArray), ⟨#[98]⟩].map Value.string).toArray 9))
        have L1 := Lib.hid ((hL.out.grown hoff.grown).al (.cells ([(⟨#[97]⟩ : ByteArray), ⟨#[98]⟩].map Value.string).toArray 9))
        have G1 := Lib.hid (grow_trans (grow_trans hG.out hoff.grown) (World.grownBy_alloc a1 (.cells ([(⟨#[97]⟩ : ByteArray), ⟨#[98]⟩].map Value.string).toArray 9) (some g)))
        have v0' := v0
        have hlg : ¬ a1.heap.size = g := by have := hoff.size; have := hD.out.lt; omega
        clear hrd hoff v1 v0 hL hD hG
        go_wp2_with fail
        refine (ofs_any _ B g a1.heap.size A cap zs _ 2 [⟨#[97]⟩, ⟨#[98]⟩] D1.out (by omega) rfl (by decide) (by decide) hlg (row_strsO a1 [⟨#[97]⟩, ⟨#[98]⟩])).mono ?_
        rintro e a2 ⟨le, q2', rfl, hle, hq2', hrd2, hg2⟩
        have D2 := Lib.hid hrd2
        have L2 := Lib.hid (L1.out.grown hg2)
        have G2 := Lib.hid (grow_trans G1.out hg2)
        have HLE := Lib.hid (letter_small hle)
        clear hrd2 hg2 hle D1 L1 G1 hlg
        go_wp2_with fail
        refine (pick_any _ _ _ _ _ _ _ _ D2.out (by omega)).mono ?_
        rintro e a3 ⟨tv, rfl, t0, t1, hoff, hrd⟩
        have hto : tv < (N : Int) := t1 (by omega)
        have D3 := Lib.hid ((hrd (by omega)).alloc (.cells ([0, 1, 0, 1, 2, 0].map (Value.int .i64)).toArray 3))
        have L3 := Lib.hid ((L2.out.grown hoff.grown).al (.cells ([0, 1, 0, 1, 2, 0].map (Value.int .i64)).toArray 3))
        have G3 := Lib.hid (grow_trans (grow_trans G2.out hoff.grown) (World.grownBy_alloc a3 (.cells ([0, 1, 0, 1, 2, 0].map (Value.int .i64)).toArray 3) (some g)))
        have hlg : ¬ a3.heap.size = g := by have := hoff.size; have := D2.out.lt; omega
        clear hrd hoff t1 D2 L2 G2
        go_wp2_with fail
        refine (num_of _ B g a3.heap.size A cap zs _ 6 [0, 1, 0, 1, 2, 0] D3.out (by omega) rfl (by decide) (by decide) hlg (row_lit a3 [0, 1, 0, 1, 2, 0])).mono ?_
        rintro e a4 ⟨co, q4, rfl, hco, hq4, hrd4, hg4⟩
        obtain ⟨s, hs⟩ : ∃ s : StepD, s = ⟨fr, le, tv, co⟩ := ⟨_, rfl⟩
        have HMS : Hid (mvOk s) := by rw [hs]; exact ⟨v0', by show fr < 4; omega, t0, by show tv < 4; omega, HLE.out⟩
        have HS := Lib.hid hs
        have D4 := Lib.hid (Rd.alloc hrd4 (.cells #[.int .i64 fr, .string le, .int .i64 tv, .int .i64 co] 75))
        have L4 := Lib.hid ((L3.out.grown hg4).al (.cells #[.int .i64 fr, .string le, .int .i64 tv, .int .i64 co] 75))
        have G4 := Lib.hid (grow_trans (grow_trans G3.out hg4) (World.grownBy_alloc a4 (.cells #[.int .i64 fr, .string le, .int .i64 tv, .int .i64 co] 75) (some g)))
        have S4 : Hid (Blk (a4.alloc (.cells #[.int .i64 fr, .string le, .int .i64 tv, .int .i64 co] 75)) a4.heap.size 75 #[.int .i64 fr, .string le, .int .i64 tv, .int .i64 co]) := Blk.new _ _ _
        clear hrd4 hg4 hco D3 L3 G3 hlg hs v0' t0 hfr hto
        obtain ⟨p0, p1, p2, p3⟩ := four_cells L4.out.blkV
        obtain ⟨s0, s1, s2, s3⟩ := four_cells S4.out
        go_wp2_with fail
        have hput := putG_any g' cp n' (w.heap.size + 1) us s _ L4.out.row hul.out (by omega) hmv.out HMS.out hpw.out
        rw [show stepV s = .agg #[.int .i64 fr, .string le, .int .i64 tv, .int .i64 co] by rw [HS.out]; rfl] at hput
        refine hput.mono ?_
        rintro e a5 ⟨g2, cp2, n2, rfl, hl2', ho, hb⟩
        have D5 := Lib.hid (D4.out.grown (gba hb.out none) (fun k hk => by cases hk))
        have L5 := Lib.hid (L4.out.grown (gba hb.out (some g)))
        have G5 := Lib.hid (grow_trans G4.out (gba hb.out (some g)))
        have hs4 : w.heap.size + 1 ≤ (a4.alloc (.cells #[.int .i64 fr, .string le, .int .i64 tv, .int .i64 co] 75)).heap.size := by have := G4.out.size; have := Blk.lt L4.out.blkR; omega
        have LP := Lib.hid (L5.out.put ho.out hs4)
        have DP := Lib.hid (D5.out.grown (grow_set a5 V 3 (.slice (some ⟨g2, 0, none⟩) n2 cp2)) (fun j hj => by cases hj; omega))
        have GP := Lib.hid (grow_own G5.out (grow_set a5 V 3 (.slice (some ⟨g2, 0, none⟩) n2 cp2)) (fun j hj => by cases hj; omega))
        have HMP : Hid (∀ t ∈ putL us s, mvOk t) := putL_all mvOk s (fun u e1 e2 e3 => by have := HMS.out; unfold mvOk at this ⊢; rw [e1, e2, e3]; exact this) (fun t u ht e1 e2 e3 => by unfold mvOk at ht ⊢; rw [e1, e2, e3]; exact ht) us hmv.out
        have HPP : Hid ((putL us s).Pairwise fun x y => code x < code y) := putL_sorted HMS.out hmv.out hpw.out
        have hn2 : n2 ≤ n' + 1 := by have := putL_few s us; have := hul.out; omega
        have HL2 := Lib.hid hl2'
        clear hput ho hb hs4 hl2' D4 L4 G4 S4 p0 p1 p2 p3 s0 s1 s2 s3
        obtain ⟨p0, p1, p2, p3⟩ := four_cells L5.out.blkV
        obtain ⟨f0, f1, f2, f3⟩ := four_frozen L5.out.blkV
        go_wp2_with fail
        go_roundw
        case rel => exact ⟨k + 1, n2, cp2, g2, _, putL us s, by omega, by go_num, HL2, by omega, LP, HMP, HPP, by omega, DP, GP⟩
        case measure => simp [intOf]; omega
      · have R9 := Lib.hid hL.out.blkR
        have V9 := Lib.hid hL.out.blkV
        obtain ⟨p0, p1, p2, p3⟩ := four_cells V9.out
        obtain ⟨d0, d1, d2, d3⟩ := four_cells R9.out
        obtain ⟨f0, f1, f2, f3⟩ := four_frozen R9.out
        have hne : ¬ (k : Int) < (C : Int) := by omega
        have HO : Hid (AOwn wr (w.heap.size + 1) (.slice E1 xs.length k1) (.slice E2 ys.length k2) (.slice (some ⟨g', 0, none⟩) n' cp) xs ys us) := ⟨hL.out.o1, hL.out.o2, by rw [hul.out]; exact hL.out.row, HD.out, by omega, by omega, by have := hul.out; omega, fun s hs => by rcases (hmv.out s hs).2.2.2.2 with e | e <;> rw [e] <;> decide⟩
        have HF : Hid (AFew xs ys us) := ⟨by omega, by omega, by have := hul.out; omega, fun s hs => by rcases (hmv.out s hs).2.2.2.2 with e | e <;> rw [e] <;> decide⟩
        go_wp2_with fail
        refine bodyPost_ret (results_1 rfl (Gives.row (g := w.heap.size) rfl (four_set R9.out _ _ _ _) Tryd.underlying26 rfl (by kernel_rfl))) rfl ?_
        exact ⟨N, (.slice E1 xs.length k1), (.slice E2 ys.length k2), _, xs, ys, us, q, rfl, (HO.out.grown (fourV_grow _ _ N (.slice E1 xs.length k1) (.slice E2 ys.length k2) _) (Nat.lt_succ_self _)).base (Nat.le_succ _), HF, by omega, hD.out.grown (fourV_grow _ w.heap.size N (.slice E1 xs.length k1) (.slice E2 ys.length k2) _) (fun j hj => by cases hj; omega), grow_own hG.out (fourV_grow _ w.heap.size N (.slice E1 xs.length k1) (.slice E2 ys.length k2) _) (fun j hj => by cases hj; exact Nat.le_refl _)⟩
end Go.Proofs.YtfdbbopanankgaaDoor
namespace Go.Proofs.YtfdbbopanankgaaDoor
open Go.RowKit
set_option maxHeartbeats 8000000
set_option maxRecDepth 100000
set_option linter.unusedVariables false

/-- What every drawn automaton keeps to, a spoilt one too. -/
def AFew2 (xs ys : List Int) (ss : List StepD) : Prop := xs.length ≤ 10 ∧ ys.length ≤ 10 ∧ ss.length ≤ 50 ∧ ∀ s ∈ ss, s.le.size ≤ 1
/-- What a drawing function leaves that returns an automaton, spoilt or not. -/
def DrawnW (base B g : Nat) (A : Option Addr) (cap : Nat) (zs : List Int) (p K : Nat) (w : World) (e : Ending) (w' : World) : Prop :=
  ∃ (m : Int) (x1 x2 x3 : Value) (xs ys : List Int) (ss : List StepD) (q : Nat), e = .returned (.agg #[.int .i64 m, x1, x2, x3]) ∧ Hid (AOwn w' base x1 x2 x3 xs ys ss) ∧ Hid (AFew2 xs ys ss) ∧ q ≤ p + K ∧ Hid (Rd w' B g A cap zs q) ∧ Hid (w.grownBy w' (some g))
structure BD (base P R g : Nat) (m : Int) (x1 x2 x3 : Value) (xs ys : List Int) (ss : List StepD) (w : World) : Prop where
  blkP : Blk w P 26 #[.int .i64 m, x1, x2, x3]
  blkR : Blk w R 26 #[.int .i64 0, .slice none 0 0, .slice none 0 0, .slice none 0 0]
  own : AOwn w base x1 x2 x3 xs ys ss
  gb : g < base
  nP : ¬ P = g
  nR : ¬ R = g
  nPR : ¬ P = R
section
variable {base P R g : Nat} {m : Int} {x1 x2 x3 : Value} {xs ys : List Int} {ss : List StepD} {w w' : World}
theorem BD.grown (h : BD base P R g m x1 x2 x3 xs ys ss w) (hg : w.grownBy w' (some g)) : BD base P R g m x1 x2 x3 xs ys ss w' :=
  ⟨h.blkP.stay hg (fun e => h.nP (Option.some.inj e)), h.blkR.stay hg (fun e => h.nR (Option.some.inj e)), h.own.grown hg h.gb, h.gb, h.nP, h.nR, h.nPR⟩
theorem BD.al (h : BD base P R g m x1 x2 x3 xs ys ss w) (o : Obj) : BD base P R g m x1 x2 x3 xs ys ss (w.alloc o) := h.grown (World.grownBy_alloc w o (some g))
theorem own_blk_set {k j i n : Nat} {t : TypeId} {x : Value} {zs : List Value} {cs : Array Value} (h : w.ownsRow base t k x n zs) (hj : Blk w j 26 cs) (ht : t ≠ 26) (v : Value) : (w.setCell ⟨j, i, none⟩ v).ownsRow base t k x n zs :=
  h.kept (grow_set w j i v) (own_ne (fun q hq e => own_ne_blk h hj ht (e.trans hq.symm)))
theorem aown_set {j i : Nat} {cs : Array Value} (h : AOwn w base x1 x2 x3 xs ys ss) (hj : Blk w j 26 cs) (v : Value) : AOwn (w.setCell ⟨j, i, none⟩ v) base x1 x2 x3 xs ys ss :=
  ⟨own_blk_set h.1 hj (by decide) v, own_blk_set h.2.1 hj (by decide) v, own_blk_set h.2.2.1 hj (by decide) v, h.2.2.2⟩
theorem aown_four {j : Nat} {u0 u1 u2 u3 : Value} (h : AOwn w base x1 x2 x3 xs ys ss) (hj : Blk w j 26 #[u0, u1, u2, u3]) (k : Int) (v1 v2 v3 : Value) : AOwn (fourV w j k v1 v2 v3) base x1 x2 x3 xs ys ss :=
  aown_set (i := 3) (aown_set (i := 2) (aown_set (i := 1) (aown_set (i := 0) h hj (.int .i64 k)) (hj.set_ 0 _) v1) ((hj.set_ 0 _).set_ 1 _) v2) (((hj.set_ 0 _).set_ 1 _).set_ 2 _) v3
theorem BD.set0 (h : BD base P R g m x1 x2 x3 xs ys ss w) (k : Int) : BD base P R g k x1 x2 x3 xs ys ss (w.setCell ⟨P, 0, none⟩ (.int .i64 k)) :=
  ⟨h.blkP.set_ 0 _, h.blkR.other P 0 _ h.nPR, aown_set h.own h.blkP _, h.gb, h.nP, h.nR, h.nPR⟩
theorem BD.set3 {us : List StepD} {x4 : Value} {base' : Nat} (h : BD base P R g m x1 x2 x3 xs ys ss w) (r : w.ownsRow base' 75 4 x4 us.length (flatS us)) (hb : base ≤ base') (hn : us.length ≤ 1048577) (hs : ∀ s ∈ us, s.le.size ≤ 9223372036854775807) : BD base P R g m x1 x2 x4 xs ys us (w.setCell ⟨P, 3, none⟩ x4) :=
  ⟨h.blkP.set_ 3 _, h.blkR.other P 3 _ h.nPR, ⟨own_blk_set h.own.1 h.blkP (by decide) _, own_blk_set h.own.2.1 h.blkP (by decide) _, own4_base (own_blk_set r h.blkP (by decide) _) hb, h.own.2.2.2.1, h.own.2.2.2.2.1, h.own.2.2.2.2.2.1, hn, hs⟩, h.gb, h.nP, h.nR, h.nPR⟩
theorem BD.set1 {us : List Int} {x4 : Value} {base' : Nat} (h : BD base P R g m x1 x2 x3 xs ys ss w) (r : w.ownsRow base' 3 1 x4 us.length (us.map (Value.int .i64))) (hb : base ≤ base') (hn : us.length ≤ 1048577) (hd : x4.ownBlock = none ∨ x4.ownBlock ≠ x2.ownBlock) : BD base P R g m x4 x2 x3 us ys ss (w.setCell ⟨P, 1, none⟩ x4) :=
  ⟨h.blkP.set_ 1 _, h.blkR.other P 1 _ h.nPR, ⟨own_base (own_blk_set r h.blkP (by decide) _) hb, own_blk_set h.own.2.1 h.blkP (by decide) _, own_blk_set h.own.2.2.1 h.blkP (by decide) _, hd, hn, h.own.2.2.2.2.2⟩, h.gb, h.nP, h.nR, h.nPR⟩
theorem BD.fin {B cap p q K : Nat} {A : Option Addr} {zs : List Int} {w9 : World} (h : BD base P R g m x1 x2 x3 xs ys ss w9) (hf : AFew2 xs ys ss) (hq : q ≤ p + K) (hD : Rd w9 B g A cap zs q) (hG : w.grownBy w9 (some g)) (hwR : w.heap.size ≤ R) (hgR : g < R) :
    DrawnW base B g A cap zs p K w (.returned (.agg #[.int .i64 m, x1, x2, x3])) (fourV w9 R m x1 x2 x3) :=
  ⟨m, x1, x2, x3, xs, ys, ss, q, rfl, aown_four h.own h.blkR m x1 x2 x3, hf, hq, hD.grown (fourV_grow w9 R m x1 x2 x3) (fun j hj => by cases hj; exact hgR), grow_own hG (fourV_grow w9 R m x1 x2 x3) (fun j hj => by cases hj; exact hwR)⟩
end
theorem src_form {w : World} {B k n n0 c : Nat} {t : TypeId} {A : Option Addr} {us : List StepD} (h : w.ownsRow B t k (.slice A n c) n0 (flatS us)) (hn : n0 = us.length) : (A = none ∧ n = 0 ∧ c = 0 ∧ us = []) ∨ ∃ b, A = some ⟨b, 0, none⟩ := by
  rcases h.2 with ⟨hx, h0⟩ | ⟨g, cap, cur, hv, _⟩
  · cases hx
    exact Or.inl ⟨rfl, rfl, rfl, List.eq_nil_of_length_eq_zero (by omega)⟩
  · cases hv
    exact Or.inr ⟨g, rfl⟩
theorem src_ints {w : World} {B k n n0 c : Nat} {t : TypeId} {A : Option Addr} {us : List Int} (h : w.ownsRow B t k (.slice A n c) n0 (us.map (Value.int .i64))) (hn : n0 = us.length) : (A = none ∧ n = 0 ∧ c = 0 ∧ us = []) ∨ ∃ b, A = some ⟨b, 0, none⟩ := by
  rcases h.2 with ⟨hx, h0⟩ | ⟨g, cap, cur, hv, _⟩
  · cases hx
    exact Or.inl ⟨rfl, rfl, rfl, List.eq_nil_of_length_eq_zero (by omega)⟩
  · cases hv
    exact Or.inr ⟨g, rfl⟩
theorem bad_any (w : World) (base B g : Nat) (A : Option Addr) (cap : Nat) (zs : List Int) (p : Nat) (m : Int) (x1 x2 x3 : Value) (xs ys : List Int) (ss : List StepD) (h : Rd w B g A cap zs p) (hp : p + 100 ≤ 1000000000000) (ho : AOwn w base x1 x2 x3 xs ys ss) (hf : AFew xs ys ss) (hgb : g < base) (hbw : base ≤ w.heap.size) :
    Calls Tryd.prog 25 #[.pointer (some ⟨g, 0, none⟩), .agg #[.int .i64 m, x1, x2, x3]] w fun e w' => DrawnW base B g A cap zs p 10 w e w' := by
  obtain ⟨j0, kj, kz0, kz1, kz2⟩ := info_step'
  have Y0 := Lib.hid kz0
  have Y1 := Lib.hid kz1
  have Y2 := Lib.hid kz2
  have YI := Lib.hid kj
  obtain ⟨i0, hi, hz0, hz1, hz2⟩ := info_parts info_int
  have Z0 := Lib.hid hz0
  have Z1 := Lib.hid hz1
  have Z2 := Lib.hid hz2
  have ZI := Lib.hid hi
  clear kz0 kz1 kz2 kj hz0 hz1 hz2 hi
  have hgw := h.lt
  obtain ⟨A1, c1, A2, c2, A3, c3, rfl, rfl, rfl⟩ := ho.forms
  obtain ⟨a1, ha1⟩ : ∃ n, n = xs.length := ⟨_, rfl⟩
  obtain ⟨a2, ha2⟩ : ∃ n, n = ys.length := ⟨_, rfl⟩
  obtain ⟨a3, ha3⟩ : ∃ n, n = ss.length := ⟨_, rfl⟩
  rw [← ha1, ← ha2, ← ha3] at ho ⊢
  obtain ⟨R, hR⟩ : ∃ R, R = w.heap.size + 1 := ⟨_, rfl⟩
  obtain ⟨wa, hwa⟩ : ∃ x, x = (w.alloc (.cells #[.int .i64 m, .slice A1 a1 c1, .slice A2 a2 c2, .slice A3 a3 c3] 26)).alloc (.cells #[.int .i64 0, .slice none 0 0, .slice none 0 0, .slice none 0 0] 26) := ⟨_, rfl⟩
  have LA : Hid (BD base w.heap.size R g m (.slice A1 a1 c1) (.slice A2 a2 c2) (.slice A3 a3 c3) xs ys ss wa) := by
    have hg1 : w.grownBy wa (some g) := by rw [hwa]; exact grow_trans (World.grownBy_alloc w _ (some g)) (World.grownBy_alloc _ _ (some g))
    exact ⟨by rw [hwa]; exact (Blk.new _ _ _).alloc _, by rw [hwa]; exact blk_new (by rw [hR]; simp), ho.grown hg1 hgb, hgb, by omega, by omega, by omega⟩
  have DA : Hid (Rd wa B g A cap zs p) := by rw [hwa]; exact (h.alloc _).alloc _
  have GA : Hid (w.grownBy wa (some g)) := by rw [hwa]; exact grow_trans (World.grownBy_alloc w _ (some g)) (World.grownBy_alloc _ _ (some g))
  have HF := Lib.hid hf
  have H1 := Lib.hid ha1
  have H2 := Lib.hid ha2
  have H3 := Lib.hid ha3
  have hRg : g < R := by omega
  have hRw : w.heap.size ≤ R := by omega
  obtain ⟨P, hP⟩ : ∃ P, P = w.heap.size := ⟨_, rfl⟩
  have hPw : w.heap.size ≤ P := by omega
  have hPg : g < P := by omega
  clear ho hf ha1 ha2 ha3 h
  go_enter Tryd.func25, Tryd.ntmps25
  go_upto_region 1 with fail
  rw [← hwa, ← hR, ← hP]
  rw [← hP] at LA
  have HPP := Lib.hid hP
  have HRR := Lib.hid hR
  clear hwa hR hP
  go_wp2_with fail
  refine (pick_any _ _ _ _ _ _ _ _ DA.out (by omega)).mono ?_
  rintro e w2 ⟨v, rfl, v0, v1, hoff, hrd⟩
  have D2 := Lib.hid (hrd (by omega))
  have L2 := Lib.hid (LA.out.grown hoff.grown)
  have G2 := Lib.hid (grow_trans GA.out hoff.grown)
  clear hrd hoff v0 v1 DA LA GA
  by_cases hv0 : v = 0
  · subst hv0
    have D3 := Lib.hid (D2.out.alloc (.cells ([0, 5, -1, 1, 9223372036854775807].map (Value.int .i64)).toArray 3))
    have L3 := Lib.hid (L2.out.al (.cells ([0, 5, -1, 1, 9223372036854775807].map (Value.int .i64)).toArray 3))
    have G3 := Lib.hid (grow_trans G2.out (World.grownBy_alloc w2 (.cells ([0, 5, -1, 1, 9223372036854775807].map (Value.int .i64)).toArray 3) (some g)))
    have hlg : ¬ w2.heap.size = g := by have := D2.out.lt; omega
    clear D2 L2 G2
    go_wp2_with fail
    refine (num_of _ B g w2.heap.size A cap zs _ 5 [0, 5, -1, 1, 9223372036854775807] D3.out (by omega) rfl (by decide) (by decide) hlg (row_lit w2 [0, 5, -1, 1, 9223372036854775807])).mono ?_
    rintro e w4 ⟨x, q4, rfl, hx, hq4, hrd4, hg4⟩
    have L4 := Lib.hid (L3.out.grown hg4)
    have L5 := Lib.hid (L4.out.set0 x)
    have D5 := Lib.hid (Rd.grown hrd4 (grow_set w4 P 0 (.int .i64 x)) (fun j hj => by cases hj; exact hPg))
    have G5 := Lib.hid (grow_own (grow_trans G3.out hg4) (grow_set w4 P 0 (.int .i64 x)) (fun j hj => by cases hj; exact hPw))
    clear hrd4 hg4 hx D3 L3 G3
    obtain ⟨p0, p1, p2, p3⟩ := four_cells L4.out.blkP
    obtain ⟨f0, f1, f2, f3⟩ := four_frozen L4.out.blkP
    go_upto_region 8 with fail
    clear p0 p1 p2 p3 f0 f1 f2 f3
    obtain ⟨p0, p1, p2, p3⟩ := four_cells L5.out.blkP
    obtain ⟨d0, d1, d2, d3⟩ := four_cells L5.out.blkR
    obtain ⟨f0, f1, f2, f3⟩ := four_frozen L5.out.blkR
    go_wp2_with fail
    refine bodyPost_ret (results_1 rfl (Gives.row (g := R) rfl (four_set L5.out.blkR _ _ _ _) Tryd.underlying26 rfl (by kernel_rfl))) rfl ?_
    exact L5.out.fin ⟨by have := HF.out.1; omega, by have := HF.out.2.1; omega, by have := HF.out.2.2.1; omega, HF.out.2.2.2⟩ (by omega) D5.out G5.out hRw hRg
  · by_cases hv1 : v = 1
    · subst hv1
      have own3 := L2.out.own.2.2.1
      have hg2 : g < w2.heap.size := D2.out.lt
      have hPs : P < w2.heap.size := Blk.lt L2.out.blkP
      have hb2 : base ≤ w2.heap.size := by have := G2.out.size; omega
      rcases src_form own3 rfl with ⟨h1, h2, h3, h4⟩ | ⟨b3, rfl⟩
      · subst h1
        subst h2
        subst h3
        have H4 := Lib.hid h4
        clear h4
        have PA := Lib.hid (Blk.alloc L2.out.blkP (.cells #[] 75))
        obtain ⟨p0, p1, p2, p3⟩ := four_cells PA.out
        clear own3
        go_wp2_with fail
        obtain ⟨w4, hw4⟩ : ∃ x, x = w2.alloc (.cells #[] 75) := ⟨_, rfl⟩
        have D4 : Hid (Rd w4 B g A cap zs (p + 1)) := by rw [hw4]; exact D2.out.alloc _
        have K4 : Hid (w2.grownBy w4 (some g)) := by rw [hw4]; exact World.grownBy_alloc w2 _ (some g)
        have W4 : Hid (w4.ownsRow w2.heap.size 75 4 (.slice (some ⟨w2.heap.size, 0, none⟩) 0 0) 0 (flatS ss)) := by rw [hw4, H4.out]; exact World.ownsRow_lit w2 #[] 0 (Nat.le_refl _) (Nat.zero_le _) rfl
        rw [← hw4]
        clear hw4 p0 p1 p2 p3 PA D2
        refine (pick_any _ _ _ _ _ _ _ _ D4.out (by omega)).mono ?_
        rintro e w5 ⟨fr, rfl, v0, v1, hoff, hrd⟩
        have D5 := Lib.hid ((hrd (by omega)).alloc (.cells ([(⟨#[97]⟩ : ByteArray), ⟨#[99]⟩, ⟨#[]⟩].map Value.string).toArray 9))
        have K5 := Lib.hid (grow_trans (grow_trans K4.out hoff.grown) (World.grownBy_alloc w5 (.cells ([(⟨#[97]⟩ : ByteArray), ⟨#[99]⟩, ⟨#[]⟩].map Value.string).toArray 9) (some g)))
        have W5 := Lib.hid (World.ownsRow.alloc (own_any W4.out hoff.grown hg2) (.cells ([(⟨#[97]⟩ : ByteArray), ⟨#[99]⟩, ⟨#[]⟩].map Value.string).toArray 9))
        have hlg : ¬ w5.heap.size = g := by have := hoff.size; have := D4.out.lt; omega
        clear hrd hoff v0 v1 D4 K4 W4
        go_wp2_with fail
        refine (ofs_any _ B g w5.heap.size A cap zs _ 3 [⟨#[97]⟩, ⟨#[99]⟩, ⟨#[]⟩] D5.out (by omega) rfl (by decide) (by decide) hlg (row_strsO w5 [⟨#[97]⟩, ⟨#[99]⟩, ⟨#[]⟩])).mono ?_
        rintro e w6 ⟨le, q6, rfl, hle, hq6, hrd6, hg6⟩
        have HLE : Hid (le.size ≤ 1) := by
          simp at hle
          rcases hle with rfl | rfl | rfl <;> (show _ ≤ 1; decide)
        have D6 := Lib.hid hrd6
        have K6 := Lib.hid (grow_trans K5.out hg6)
        have W6 := Lib.hid (own_any W5.out hg6 hg2)
        clear hrd6 hg6 hle D5 K5 W5 hlg
        have D7a := Lib.hid (Rd.alloc D6.out (.cells ([0, 4, -1].map (Value.int .i64)).toArray 3))
        have K7a := Lib.hid (grow_trans K6.out (World.grownBy_alloc w6 (.cells ([0, 4, -1].map (Value.int .i64)).toArray 3) (some g)))
        have W7a := Lib.hid (World.ownsRow.alloc W6.out (.cells ([0, 4, -1].map (Value.int .i64)).toArray 3))
        have hlg7 : ¬ w6.heap.size = g := by have := D6.out.lt; omega
        clear D6 K6 W6
        go_wp2_with fail
        refine (num_of _ B g w6.heap.size A cap zs _ 3 [0, 4, -1] D7a.out (by omega) rfl (by decide) (by decide) hlg7 (row_lit w6 [0, 4, -1])).mono ?_
        rintro e w7 ⟨tv, q7, rfl, h7, hq7, hrd7, hg7⟩
        have D7 := Lib.hid hrd7
        have K7 := Lib.hid (grow_trans K7a.out hg7)
        have W7 := Lib.hid (own_any W7a.out hg7 hg2)
        clear hrd7 hg7 h7 D7a K7a W7a hlg7
        have D8a := Lib.hid (Rd.alloc D7.out (.cells ([0, 4, -1].map (Value.int .i64)).toArray 3))
        have K8a := Lib.hid (grow_trans K7.out (World.grownBy_alloc w7 (.cells ([0, 4, -1].map (Value.int .i64)).toArray 3) (some g)))
        have W8a := Lib.hid (World.ownsRow.alloc W7.out (.cells ([0, 4, -1].map (Value.int .i64)).toArray 3))
        have hlg8 : ¬ w7.heap.size = g := by have := D7.out.lt; omega
        clear D7 K7 W7
        go_wp2_with fail
        refine (num_of _ B g w7.heap.size A cap zs _ 3 [0, 4, -1] D8a.out (by omega) rfl (by decide) (by decide) hlg8 (row_lit w7 [0, 4, -1])).mono ?_
        rintro e w8 ⟨co, q8, rfl, h8, hq8, hrd8, hg8⟩
        have D8 := Lib.hid hrd8
        have K8 := Lib.hid (grow_trans K8a.out hg8)
        have W8 := Lib.hid (own_any W8a.out hg8 hg2)
        clear hrd8 hg8 h8 D8a K8a W8a hlg8
        obtain ⟨s, hs⟩ : ∃ s : StepD, s = ⟨fr, le, tv, co⟩ := ⟨_, rfl⟩
        have HSS := Lib.hid hs
        have D9 := Lib.hid (Rd.alloc D8.out (.cells #[.int .i64 fr, .string le, .int .i64 tv, .int .i64 co] 75))
        have K9 := Lib.hid (grow_trans K8.out (World.grownBy_alloc w8 (.cells #[.int .i64 fr, .string le, .int .i64 tv, .int .i64 co] 75) (some g)))
        have W9 := Lib.hid (World.ownsRow.alloc W8.out (.cells #[.int .i64 fr, .string le, .int .i64 tv, .int .i64 co] 75))
        have N9 := Lib.hid (lit_news w8 #[.int .i64 fr, .string le, .int .i64 tv, .int .i64 co] 75)
        clear D8 K8 W8 hs
        go_wp2_with (at_builtin; refine wpList_append_own _ rfl _ _ 24 rfl w2.heap.size 75 j0 (.agg #[.int .i64 0, .string ByteArray.empty, .int .i64 0, .int .i64 0]) 4 40 Tryd.underlying24 YI.out Y0.out Y1.out Y2.out rfl (by decide) _ _ _ rfl W9.out ⟨w8.heap.size, 0, none⟩ 1 1 [.int .i64 fr, .string le, .int .i64 tv, .int .i64 co] rfl rfl ?d1 ?d2 ?d3 ?d4 ?d5 ?_)
        case d1 => exact N9.out
        case d2 => intro u hu; simp at hu; rcases hu with rfl | rfl | rfl | rfl <;> rfl
        case d3 => have := HF.out.2.2.1; have := H3.out; unfold maxLen; omega
        case d4 => have := HF.out.2.2.1; have := H3.out; omega
        case d5 => have := K9.out.size; omega
        intro v'' w10 ho10 hg10 _
        have K10 := Lib.hid (grow_own K9.out hg10 (fun j hj => (W9.out.lt j hj).1))
        have D10 := Lib.hid (D9.out.grown hg10 (fun j hj => by have := (W9.out.lt j hj).1; omega))
        have hl10 : (ss ++ [s]).length = 0 + 1 := by rw [List.length_append, ← H3.out]; rfl
        have ho10' : w10.ownsRow w2.heap.size 75 4 v'' (ss ++ [s]).length (flatS (ss ++ [s])) := by
          rw [hl10, flatS_snoc, HSS.out]
          exact ho10
        have hfs : ∀ u ∈ ss ++ [s], u.le.size ≤ 1 := fun u hu => by
          rcases List.mem_append.1 hu with h | h
          · exact HF.out.2.2.2 u h
          · rw [List.mem_singleton] at h
            rw [h, HSS.out]
            exact HLE.out
        have hn10 : (ss ++ [s]).length ≤ 41 := by rw [hl10]; have := HF.out.2.2.1; have := H3.out; omega
        obtain ⟨A7, c7, rfl, _⟩ := own_read4 ho10' rfl (by omega) (fun u hu => Nat.le_trans (hfs u hu) (by decide))
        have L10 := Lib.hid (L2.out.grown K10.out)
        have L11 := Lib.hid (L10.out.set3 ho10' hb2 (by omega) (fun u hu => Nat.le_trans (hfs u hu) (by decide)))
        obtain ⟨us, hus⟩ : ∃ us, us = ss ++ [s] := ⟨_, rfl⟩
        rw [← hus] at L11 hn10 hfs ⊢
        have HFS := Lib.hid hfs
        have D11 := Lib.hid (D10.out.grown (grow_set w10 P 3 (.slice A7 us.length c7)) (fun j hj => by cases hj; exact hPg))
        have G11 := Lib.hid (grow_own (grow_trans G2.out K10.out) (grow_set w10 P 3 (.slice A7 us.length c7)) (fun j hj => by cases hj; exact hPw))
        clear ho10 ho10' hg10 hl10 hus hfs D9 K9 W9 N9 D10
        obtain ⟨p0, p1, p2, p3⟩ := four_cells L10.out.blkP
        obtain ⟨f0, f1, f2, f3⟩ := four_frozen L10.out.blkP
        go_upto_region 8 with fail
        clear p0 p1 p2 p3 f0 f1 f2 f3
        obtain ⟨p0, p1, p2, p3⟩ := four_cells L11.out.blkP
        obtain ⟨d0, d1, d2, d3⟩ := four_cells L11.out.blkR
        obtain ⟨f0, f1, f2, f3⟩ := four_frozen L11.out.blkR
        go_wp2_with fail
        refine bodyPost_ret (results_1 rfl (Gives.row (g := R) rfl (four_set L11.out.blkR _ _ _ _) Tryd.underlying26 rfl (by kernel_rfl))) rfl ?_
        exact L11.out.fin ⟨by have := HF.out.1; omega, by have := HF.out.2.1; omega, by omega, HFS.out⟩ (by omega) D11.out G11.out hRw hRg
      · obtain ⟨A', c', he, hS3⟩ := own_read4 own3 rfl (by have := HF.out.2.2.1; omega) (fun s hs => Nat.le_trans (HF.out.2.2.2 s hs) (by decide))
        injection he with he1 he2 he3
        subst he1
        clear he2 he3
        have NW := Lib.hid (news_steps (SRow.below hS3 (below_a1 w2 (.cells #[] 75))))
        have OL : Hid ((w2.alloc (.cells #[] 75)).ownsRow w2.heap.size 75 4 (.slice (some ⟨w2.heap.size, 0, none⟩) 0 0) 0 []) := World.ownsRow_lit w2 #[] 0 (Nat.le_refl _) (Nat.zero_le _) rfl
        have PA := Lib.hid (Blk.alloc L2.out.blkP (.cells #[] 75))
        clear own3 hS3
        obtain ⟨p0, p1, p2, p3⟩ := four_cells PA.out
        go_wp2_with (at_builtin; refine wpList_append_own _ rfl _ _ 24 rfl w2.heap.size 75 j0 (.agg #[.int .i64 0, .string ByteArray.empty, .int .i64 0, .int .i64 0]) 4 40 Tryd.underlying24 YI.out Y0.out Y1.out Y2.out rfl (by decide) _ _ _ rfl OL.out ⟨b3, 0, none⟩ a3 c3 (flatS ss) rfl ?c0 ?c1 ?c2 ?c3 ?c4 ?c5 ?_)
        case c0 => rw [flatS_len, H3.out]
        case c1 => exact NW.out
        case c2 => exact flatS_one ss
        case c3 => have := HF.out.2.2.1; have := H3.out; unfold maxLen; omega
        case c4 => have := HF.out.2.2.1; have := H3.out; omega
        case c5 => simp
        intro v' w4 ho4 hg4 _
        have hb4 : Below w2.heap.size w2 w4 := (below_a1 w2 _).grown hg4 (by simp) (fun j hj => by cases hj; exact Nat.le_refl _)
        have D4 := Lib.hid (D2.out.grown (gba hb4 none) (fun k hk => by cases hk))
        have K4 : Hid (w2.grownBy w4 (some g)) := gba hb4 (some g)
        have ho4' : w4.ownsRow w2.heap.size 75 4 v' ss.length (flatS ss) := by
          have e := ho4
          (try simp only [Nat.zero_add, List.nil_append] at e)
          rw [H3.out] at e
          exact e
        obtain ⟨A6, c6, rfl, _⟩ := own_read4 ho4' rfl (by have := HF.out.2.2.1; omega) (fun s hs => Nat.le_trans (HF.out.2.2.2 s hs) (by decide))
        rw [← H3.out] at ho4' ⊢
        have W4 := Lib.hid ho4'
        clear ho4 ho4' hg4 hb4 p0 p1 p2 p3 PA OL NW D2
        go_wp2_with fail
        refine (pick_any _ _ _ _ _ _ _ _ D4.out (by omega)).mono ?_
        rintro e w5 ⟨fr, rfl, v0, v1, hoff, hrd⟩
        have D5 := Lib.hid ((hrd (by omega)).alloc (.cells ([(⟨#[97]⟩ : ByteArray), ⟨#[99]⟩, ⟨#[]⟩].map Value.string).toArray 9))
        have K5 := Lib.hid (grow_trans (grow_trans K4.out hoff.grown) (World.grownBy_alloc w5 (.cells ([(⟨#[97]⟩ : ByteArray), ⟨#[99]⟩, ⟨#[]⟩].map Value.string).toArray 9) (some g)))
        have W5 := Lib.hid (World.ownsRow.alloc (own_any W4.out hoff.grown hg2) (.cells ([(⟨#[97]⟩ : ByteArray), ⟨#[99]⟩, ⟨#[]⟩].map Value.string).toArray 9))
        have hlg : ¬ w5.heap.size = g := by have := hoff.size; have := D4.out.lt; omega
        clear hrd hoff v0 v1 D4 K4 W4
        go_wp2_with fail
        refine (ofs_any _ B g w5.heap.size A cap zs _ 3 [⟨#[97]⟩, ⟨#[99]⟩, ⟨#[]⟩] D5.out (by omega) rfl (by decide) (by decide) hlg (row_strsO w5 [⟨#[97]⟩, ⟨#[99]⟩, ⟨#[]⟩])).mono ?_
        rintro e w6 ⟨le, q6, rfl, hle, hq6, hrd6, hg6⟩
        have HLE : Hid (le.size ≤ 1) := by
          simp at hle
          rcases hle with rfl | rfl | rfl <;> (show _ ≤ 1; decide)
        have D6 := Lib.hid hrd6
        have K6 := Lib.hid (grow_trans K5.out hg6)
        have W6 := Lib.hid (own_any W5.out hg6 hg2)
        clear hrd6 hg6 hle D5 K5 W5 hlg
        have D7a := Lib.hid (Rd.alloc D6.out (.cells ([0, 4, -1].map (Value.int .i64)).toArray 3))
        have K7a := Lib.hid (grow_trans K6.out (World.grownBy_alloc w6 (.cells ([0, 4, -1].map (Value.int .i64)).toArray 3) (some g)))
        have W7a := Lib.hid (World.ownsRow.alloc W6.out (.cells ([0, 4, -1].map (Value.int .i64)).toArray 3))
        have hlg7 : ¬ w6.heap.size = g := by have := D6.out.lt; omega
        clear D6 K6 W6
        go_wp2_with fail
        refine (num_of _ B g w6.heap.size A cap zs _ 3 [0, 4, -1] D7a.out (by omega) rfl (by decide) (by decide) hlg7 (row_lit w6 [0, 4, -1])).mono ?_
        rintro e w7 ⟨tv, q7, rfl, h7, hq7, hrd7, hg7⟩
        have D7 := Lib.hid hrd7
        have K7 := Lib.hid (grow_trans K7a.out hg7)
        have W7 := Lib.hid (own_any W7a.out hg7 hg2)
        clear hrd7 hg7 h7 D7a K7a W7a hlg7
        have D8a := Lib.hid (Rd.alloc D7.out (.cells ([0, 4, -1].map (Value.int .i64)).toArray 3))
        have K8a := Lib.hid (grow_trans K7.out (World.grownBy_alloc w7 (.cells ([0, 4, -1].map (Value.int .i64)).toArray 3) (some g)))
        have W8a := Lib.hid (World.ownsRow.alloc W7.out (.cells ([0, 4, -1].map (Value.int .i64)).toArray 3))
        have hlg8 : ¬ w7.heap.size = g := by have := D7.out.lt; omega
        clear D7 K7 W7
        go_wp2_with fail
        refine (num_of _ B g w7.heap.size A cap zs _ 3 [0, 4, -1] D8a.out (by omega) rfl (by decide) (by decide) hlg8 (row_lit w7 [0, 4, -1])).mono ?_
        rintro e w8 ⟨co, q8, rfl, h8, hq8, hrd8, hg8⟩
        have D8 := Lib.hid hrd8
        have K8 := Lib.hid (grow_trans K8a.out hg8)
        have W8 := Lib.hid (own_any W8a.out hg8 hg2)
        clear hrd8 hg8 h8 D8a K8a W8a hlg8
        obtain ⟨s, hs⟩ : ∃ s : StepD, s = ⟨fr, le, tv, co⟩ := ⟨_, rfl⟩
        have HSS := Lib.hid hs
        have D9 := Lib.hid (Rd.alloc D8.out (.cells #[.int .i64 fr, .string le, .int .i64 tv, .int .i64 co] 75))
        have K9 := Lib.hid (grow_trans K8.out (World.grownBy_alloc w8 (.cells #[.int .i64 fr, .string le, .int .i64 tv, .int .i64 co] 75) (some g)))
        have W9 := Lib.hid (World.ownsRow.alloc W8.out (.cells #[.int .i64 fr, .string le, .int .i64 tv, .int .i64 co] 75))
        have N9 := Lib.hid (lit_news w8 #[.int .i64 fr, .string le, .int .i64 tv, .int .i64 co] 75)
        clear D8 K8 W8 hs
        go_wp2_with (at_builtin; refine wpList_append_own _ rfl _ _ 24 rfl w2.heap.size 75 j0 (.agg #[.int .i64 0, .string ByteArray.empty, .int .i64 0, .int .i64 0]) 4 40 Tryd.underlying24 YI.out Y0.out Y1.out Y2.out rfl (by decide) _ _ _ rfl W9.out ⟨w8.heap.size, 0, none⟩ 1 1 [.int .i64 fr, .string le, .int .i64 tv, .int .i64 co] rfl rfl ?d1 ?d2 ?d3 ?d4 ?d5 ?_)
        case d1 => exact N9.out
        case d2 => intro u hu; simp at hu; rcases hu with rfl | rfl | rfl | rfl <;> rfl
        case d3 => have := HF.out.2.2.1; have := H3.out; unfold maxLen; omega
        case d4 => have := HF.out.2.2.1; have := H3.out; omega
        case d5 => have := K9.out.size; omega
        intro v'' w10 ho10 hg10 _
        have K10 := Lib.hid (grow_own K9.out hg10 (fun j hj => (W9.out.lt j hj).1))
        have D10 := Lib.hid (D9.out.grown hg10 (fun j hj => by have := (W9.out.lt j hj).1; omega))
        have hl10 : (ss ++ [s]).length = a3 + 1 := by rw [List.length_append, ← H3.out]; rfl
        have ho10' : w10.ownsRow w2.heap.size 75 4 v'' (ss ++ [s]).length (flatS (ss ++ [s])) := by
          rw [hl10, flatS_snoc, HSS.out]
          exact ho10
        have hfs : ∀ u ∈ ss ++ [s], u.le.size ≤ 1 := fun u hu => by
          rcases List.mem_append.1 hu with h | h
          · exact HF.out.2.2.2 u h
          · rw [List.mem_singleton] at h
            rw [h, HSS.out]
            exact HLE.out
        have hn10 : (ss ++ [s]).length ≤ 41 := by rw [hl10]; have := HF.out.2.2.1; have := H3.out; omega
        obtain ⟨A7, c7, rfl, _⟩ := own_read4 ho10' rfl (by omega) (fun u hu => Nat.le_trans (hfs u hu) (by decide))
        have L10 := Lib.hid (L2.out.grown K10.out)
        have L11 := Lib.hid (L10.out.set3 ho10' hb2 (by omega) (fun u hu => Nat.le_trans (hfs u hu) (by decide)))
        obtain ⟨us, hus⟩ : ∃ us, us = ss ++ [s] := ⟨_, rfl⟩
        rw [← hus] at L11 hn10 hfs ⊢
        have HFS := Lib.hid hfs
        have D11 := Lib.hid (D10.out.grown (grow_set w10 P 3 (.slice A7 us.length c7)) (fun j hj => by cases hj; exact hPg))
        have G11 := Lib.hid (grow_own (grow_trans G2.out K10.out) (grow_set w10 P 3 (.slice A7 us.length c7)) (fun j hj => by cases hj; exact hPw))
        clear ho10 ho10' hg10 hl10 hus hfs D9 K9 W9 N9 D10
        obtain ⟨p0, p1, p2, p3⟩ := four_cells L10.out.blkP
        obtain ⟨f0, f1, f2, f3⟩ := four_frozen L10.out.blkP
        go_upto_region 8 with fail
        clear p0 p1 p2 p3 f0 f1 f2 f3
        obtain ⟨p0, p1, p2, p3⟩ := four_cells L11.out.blkP
        obtain ⟨d0, d1, d2, d3⟩ := four_cells L11.out.blkR
        obtain ⟨f0, f1, f2, f3⟩ := four_frozen L11.out.blkR
        go_wp2_with fail
        refine bodyPost_ret (results_1 rfl (Gives.row (g := R) rfl (four_set L11.out.blkR _ _ _ _) Tryd.underlying26 rfl (by kernel_rfl))) rfl ?_
        exact L11.out.fin ⟨by have := HF.out.1; omega, by have := HF.out.2.1; omega, by omega, HFS.out⟩ (by omega) D11.out G11.out hRw hRg
    · by_cases hv2 : v = 2
      · subst hv2
        have own3 := L2.out.own.1
        have hg2 : g < w2.heap.size := D2.out.lt
        have hPs : P < w2.heap.size := Blk.lt L2.out.blkP
        have hb2 : base ≤ w2.heap.size := by have := G2.out.size; omega
        have b0 : ((2 : Int) == 0) = false := rfl
        rcases src_ints own3 rfl with ⟨h1, h2, h3, h4⟩ | ⟨b3, rfl⟩
        · subst h1
          subst h2
          subst h3
          have H4 := Lib.hid h4
          clear h4
          have PA := Lib.hid (Blk.alloc L2.out.blkP (.cells #[] 3))
          obtain ⟨p0, p1, p2, p3⟩ := four_cells PA.out
          clear own3
          obtain ⟨w4, hw4⟩ : ∃ x, x = w2.alloc (.cells #[] 3) := ⟨_, rfl⟩
          have D4 : Hid (Rd w4 B g A cap zs (p + 1)) := by rw [hw4]; exact D2.out.alloc _
          have K4 : Hid (w2.grownBy w4 (some g)) := by rw [hw4]; exact World.grownBy_alloc w2 _ (some g)
          have W4 : Hid (w4.ownsRow w2.heap.size 3 1 (.slice (some ⟨w2.heap.size, 0, none⟩) 0 0) 0 (xs.map (Value.int .i64))) := by rw [hw4, H4.out]; exact World.ownsRow_lit w2 #[] 0 (Nat.le_refl _) (Nat.zero_le _) rfl
          have HSZ : Hid (w2.heap.size + 1 = w4.heap.size) := by show _ = _; rw [hw4]; simp
          have HW4 := Lib.hid hw4
          clear hw4
          clear D2
          have D8a := Lib.hid (Rd.alloc D4.out (.cells ([0, 4, -1].map (Value.int .i64)).toArray 3))
          have K8a := Lib.hid (grow_trans K4.out (World.grownBy_alloc w4 (.cells ([0, 4, -1].map (Value.int .i64)).toArray 3) (some g)))
          have W8a := Lib.hid (World.ownsRow.alloc W4.out (.cells ([0, 4, -1].map (Value.int .i64)).toArray 3))
          have hlg8 : ¬ w4.heap.size = g := by have := D4.out.lt; omega
          clear D4 K4 W4
          go_wp2_with fail
          rw [← HW4.out, HSZ.out]
          clear HW4 HSZ p0 p1 p2 p3 PA
          refine (num_of _ B g w4.heap.size A cap zs _ 3 [0, 4, -1] D8a.out (by omega) rfl (by decide) (by decide) hlg8 (row_lit w4 [0, 4, -1])).mono ?_
          rintro e w8 ⟨z, q8, rfl, h8, hq8, hrd8, hg8⟩
          have D8 := Lib.hid hrd8
          have K8 := Lib.hid (grow_trans K8a.out hg8)
          have W8 := Lib.hid (own_any W8a.out hg8 hg2)
          clear hrd8 hg8 h8 D8a K8a W8a hlg8
          have D9 := Lib.hid (Rd.alloc D8.out (.cells #[.int .i64 z] 3))
          have K9 := Lib.hid (grow_trans K8.out (World.grownBy_alloc w8 (.cells #[.int .i64 z] 3) (some g)))
          have W9 := Lib.hid (World.ownsRow.alloc W8.out (.cells #[.int .i64 z] 3))
          have N9 := Lib.hid (lit_news w8 #[.int .i64 z] 3)
          clear D8 K8 W8
          go_wp2_with (at_builtin; refine wpList_append_own _ rfl _ _ 23 rfl w2.heap.size 3 i0 (.int .i64 0) 1 8 Tryd.underlying23 ZI.out Z0.out Z1.out Z2.out rfl (by decide) _ _ _ rfl W9.out ⟨w8.heap.size, 0, none⟩ 1 1 [.int .i64 z] rfl rfl ?d1 ?d2 ?d3 ?d4 ?d5 ?_)
          case d1 => exact N9.out
          case d2 => intro u hu; simp at hu; subst hu; rfl
          case d3 => have := HF.out.1; have := H1.out; unfold maxLen; omega
          case d4 => have := HF.out.1; have := H1.out; omega
          case d5 => have := K9.out.size; omega
          intro v'' w10 ho10 hg10 _
          have K10 := Lib.hid (grow_own K9.out hg10 (fun j hj => (W9.out.lt j hj).1))
          have D10 := Lib.hid (D9.out.grown hg10 (fun j hj => by have := (W9.out.lt j hj).1; omega))
          have hl10 : (xs ++ [z]).length = 0 + 1 := by rw [List.length_append, ← H1.out]; rfl
          have ho10' : w10.ownsRow w2.heap.size 3 1 v'' (xs ++ [z]).length ((xs ++ [z]).map (Value.int .i64)) := by
            rw [hl10, List.map_append]
            exact ho10
          have hn10 : (xs ++ [z]).length ≤ 9 := by rw [hl10]; have := HF.out.1; have := H1.out; omega
          have hd10 : v''.ownBlock = none ∨ v''.ownBlock ≠ (Value.slice A2 a2 c2).ownBlock := by
            rcases hx : v''.ownBlock with _ | j
            · exact Or.inl rfl
            · right
              intro e
              have h1 := (ho10'.lt j hx).1
              have h2 := (L2.out.own.2.1.lt j e.symm).2
              omega
          obtain ⟨A7, c7, rfl, _, _⟩ := own_ints ho10' (by unfold maxLen; omega)
          have L10 := Lib.hid (L2.out.grown K10.out)
          have L11 := Lib.hid (L10.out.set1 ho10' hb2 (by omega) hd10)
          obtain ⟨us, hus⟩ : ∃ us, us = xs ++ [z] := ⟨_, rfl⟩
          rw [← hus] at L11 hn10 ⊢
          have D11 := Lib.hid (D10.out.grown (grow_set w10 P 1 (.slice A7 us.length c7)) (fun j hj => by cases hj; exact hPg))
          have G11 := Lib.hid (grow_own (grow_trans G2.out K10.out) (grow_set w10 P 1 (.slice A7 us.length c7)) (fun j hj => by cases hj; exact hPw))
          clear ho10 ho10' hg10 hl10 hus hd10 D9 K9 W9 N9 D10
          obtain ⟨p0, p1, p2, p3⟩ := four_cells L10.out.blkP
          obtain ⟨f0, f1, f2, f3⟩ := four_frozen L10.out.blkP
          go_upto_region 8 with fail
          clear p0 p1 p2 p3 f0 f1 f2 f3
          obtain ⟨p0, p1, p2, p3⟩ := four_cells L11.out.blkP
          obtain ⟨d0, d1, d2, d3⟩ := four_cells L11.out.blkR
          obtain ⟨f0, f1, f2, f3⟩ := four_frozen L11.out.blkR
          go_wp2_with fail
          refine bodyPost_ret (results_1 rfl (Gives.row (g := R) rfl (four_set L11.out.blkR _ _ _ _) Tryd.underlying26 rfl (by kernel_rfl))) rfl ?_
          exact L11.out.fin ⟨by omega, by have := HF.out.2.1; omega, by have := HF.out.2.2.1; omega, HF.out.2.2.2⟩ (by omega) D11.out G11.out hRw hRg
        · have hS3 : Ints w2 w2.heap.size (some ⟨b3, 0, none⟩) xs := by
            obtain ⟨A', c', he, _, hi⟩ := own_ints own3 (by have := HF.out.1; unfold maxLen; omega)
            injection he with he1 he2 he3
            rw [he1]
            exact hi
          have NW := Lib.hid (news_ints (hS3.below (below_a1 w2 (.cells #[] 3))))
          have OL : Hid ((w2.alloc (.cells #[] 3)).ownsRow w2.heap.size 3 1 (.slice (some ⟨w2.heap.size, 0, none⟩) 0 0) 0 []) := World.ownsRow_lit w2 #[] 0 (Nat.le_refl _) (Nat.zero_le _) rfl
          have PA := Lib.hid (Blk.alloc L2.out.blkP (.cells #[] 3))
          clear own3 hS3
          obtain ⟨p0, p1, p2, p3⟩ := four_cells PA.out
          go_wp2_with (at_builtin; refine wpList_append_own _ rfl _ _ 23 rfl w2.heap.size 3 i0 (.int .i64 0) 1 8 Tryd.underlying23 ZI.out Z0.out Z1.out Z2.out rfl (by decide) _ _ _ rfl OL.out ⟨b3, 0, none⟩ a1 c1 (xs.map (Value.int .i64)) rfl ?c0 ?c1 ?c2 ?c3 ?c4 ?c5 ?_)
          case c0 => rw [List.length_map, Nat.mul_one, H1.out]
          case c1 => exact NW.out
          case c2 => intro u hu; simp at hu; obtain ⟨x, _, rfl⟩ := hu; rfl
          case c3 => have := HF.out.1; have := H1.out; unfold maxLen; omega
          case c4 => have := HF.out.1; have := H1.out; omega
          case c5 => simp
          intro v' w4 ho4 hg4 _
          have hb4 : Below w2.heap.size w2 w4 := (below_a1 w2 _).grown hg4 (by simp) (fun j hj => by cases hj; exact Nat.le_refl _)
          have D4 := Lib.hid (D2.out.grown (gba hb4 none) (fun k hk => by cases hk))
          have K4 : Hid (w2.grownBy w4 (some g)) := gba hb4 (some g)
          have ho4' : w4.ownsRow w2.heap.size 3 1 v' xs.length (xs.map (Value.int .i64)) := by
            have e := ho4
            (try simp only [Nat.zero_add, List.nil_append] at e)
            rw [H1.out] at e
            exact e
          obtain ⟨A6, c6, rfl, _, _⟩ := own_ints ho4' (by have := HF.out.1; unfold maxLen; omega)
          rw [← H1.out] at ho4' ⊢
          have W4 := Lib.hid ho4'
          clear ho4 ho4' hg4 hb4 p0 p1 p2 p3 PA OL NW D2
          have D8a := Lib.hid (Rd.alloc D4.out (.cells ([0, 4, -1].map (Value.int .i64)).toArray 3))
          have K8a := Lib.hid (grow_trans K4.out (World.grownBy_alloc w4 (.cells ([0, 4, -1].map (Value.int .i64)).toArray 3) (some g)))
          have W8a := Lib.hid (World.ownsRow.alloc W4.out (.cells ([0, 4, -1].map (Value.int .i64)).toArray 3))
          have hlg8 : ¬ w4.heap.size = g := by have := D4.out.lt; omega
          clear D4 K4 W4
          go_wp2_with fail
          refine (num_of _ B g w4.heap.size A cap zs _ 3 [0, 4, -1] D8a.out (by omega) rfl (by decide) (by decide) hlg8 (row_lit w4 [0, 4, -1])).mono ?_
          rintro e w8 ⟨z, q8, rfl, h8, hq8, hrd8, hg8⟩
          have D8 := Lib.hid hrd8
          have K8 := Lib.hid (grow_trans K8a.out hg8)
          have W8 := Lib.hid (own_any W8a.out hg8 hg2)
          clear hrd8 hg8 h8 D8a K8a W8a hlg8
          have D9 := Lib.hid (Rd.alloc D8.out (.cells #[.int .i64 z] 3))
          have K9 := Lib.hid (grow_trans K8.out (World.grownBy_alloc w8 (.cells #[.int .i64 z] 3) (some g)))
          have W9 := Lib.hid (World.ownsRow.alloc W8.out (.cells #[.int .i64 z] 3))
          have N9 := Lib.hid (lit_news w8 #[.int .i64 z] 3)
          clear D8 K8 W8
          go_wp2_with (at_builtin; refine wpList_append_own _ rfl _ _ 23 rfl w2.heap.size 3 i0 (.int .i64 0) 1 8 Tryd.underlying23 ZI.out Z0.out Z1.out Z2.out rfl (by decide) _ _ _ rfl W9.out ⟨w8.heap.size, 0, none⟩ 1 1 [.int .i64 z] rfl rfl ?d1 ?d2 ?d3 ?d4 ?d5 ?_)
          case d1 => exact N9.out
          case d2 => intro u hu; simp at hu; subst hu; rfl
          case d3 => have := HF.out.1; have := H1.out; unfold maxLen; omega
          case d4 => have := HF.out.1; have := H1.out; omega
          case d5 => have := K9.out.size; omega
          intro v'' w10 ho10 hg10 _
          have K10 := Lib.hid (grow_own K9.out hg10 (fun j hj => (W9.out.lt j hj).1))
          have D10 := Lib.hid (D9.out.grown hg10 (fun j hj => by have := (W9.out.lt j hj).1; omega))
          have hl10 : (xs ++ [z]).length = a1 + 1 := by rw [List.length_append, ← H1.out]; rfl
          have ho10' : w10.ownsRow w2.heap.size 3 1 v'' (xs ++ [z]).length ((xs ++ [z]).map (Value.int .i64)) := by
            rw [hl10, List.map_append]
            exact ho10
          have hn10 : (xs ++ [z]).length ≤ 9 := by rw [hl10]; have := HF.out.1; have := H1.out; omega
          have hd10 : v''.ownBlock = none ∨ v''.ownBlock ≠ (Value.slice A2 a2 c2).ownBlock := by
            rcases hx : v''.ownBlock with _ | j
            · exact Or.inl rfl
            · right
              intro e
              have h1 := (ho10'.lt j hx).1
              have h2 := (L2.out.own.2.1.lt j e.symm).2
              omega
          obtain ⟨A7, c7, rfl, _, _⟩ := own_ints ho10' (by unfold maxLen; omega)
          have L10 := Lib.hid (L2.out.grown K10.out)
          have L11 := Lib.hid (L10.out.set1 ho10' hb2 (by omega) hd10)
          obtain ⟨us, hus⟩ : ∃ us, us = xs ++ [z] := ⟨_, rfl⟩
          rw [← hus] at L11 hn10 ⊢
          have D11 := Lib.hid (D10.out.grown (grow_set w10 P 1 (.slice A7 us.length c7)) (fun j hj => by cases hj; exact hPg))
          have G11 := Lib.hid (grow_own (grow_trans G2.out K10.out) (grow_set w10 P 1 (.slice A7 us.length c7)) (fun j hj => by cases hj; exact hPw))
          clear ho10 ho10' hg10 hl10 hus hd10 D9 K9 W9 N9 D10
          obtain ⟨p0, p1, p2, p3⟩ := four_cells L10.out.blkP
          obtain ⟨f0, f1, f2, f3⟩ := four_frozen L10.out.blkP
          go_upto_region 8 with fail
          clear p0 p1 p2 p3 f0 f1 f2 f3
          obtain ⟨p0, p1, p2, p3⟩ := four_cells L11.out.blkP
          obtain ⟨d0, d1, d2, d3⟩ := four_cells L11.out.blkR
          obtain ⟨f0, f1, f2, f3⟩ := four_frozen L11.out.blkR
          go_wp2_with fail
          refine bodyPost_ret (results_1 rfl (Gives.row (g := R) rfl (four_set L11.out.blkR _ _ _ _) Tryd.underlying26 rfl (by kernel_rfl))) rfl ?_
          exact L11.out.fin ⟨by omega, by have := HF.out.2.1; omega, by have := HF.out.2.2.1; omega, HF.out.2.2.2⟩ (by omega) D11.out G11.out hRw hRg
      · have b0 : (v == 0) = false := by rw [beq_eq_false_iff_ne]; exact hv0
        have b1 : (v == 1) = false := by rw [beq_eq_false_iff_ne]; exact hv1
        have b2 : (v == 2) = false := by rw [beq_eq_false_iff_ne]; exact hv2
        clear hv0 hv1 hv2
        obtain ⟨p0, p1, p2, p3⟩ := four_cells L2.out.blkP
        obtain ⟨d0, d1, d2, d3⟩ := four_cells L2.out.blkR
        obtain ⟨f0, f1, f2, f3⟩ := four_frozen L2.out.blkR
        go_wp2_with fail
        refine bodyPost_ret (results_1 rfl (Gives.row (g := R) rfl (four_set L2.out.blkR _ _ _ _) Tryd.underlying26 rfl (by kernel_rfl))) rfl ?_
        exact L2.out.fin ⟨by have := HF.out.1; omega, by have := HF.out.2.1; omega, by have := HF.out.2.2.1; omega, HF.out.2.2.2⟩ (by omega) D2.out G2.out hRw hRg
theorem any_any (w : World) (B g : Nat) (A : Option Addr) (cap : Nat) (zs : List Int) (p : Nat) (h : Rd w B g A cap zs p) (hp : p + 300 ≤ 1000000000000) :
    Calls Tryd.prog 13 #[.pointer (some ⟨g, 0, none⟩)] w fun e w' => DrawnW w.heap.size B g A cap zs p 80 w e w' := by
  have hgw := h.lt
  go_enter Tryd.func13, Tryd.ntmps13
  go_wp2_with fail
  refine (draw_any (w.alloc (.cells #[.int .i64 0, .slice none 0 0, .slice none 0 0, .slice none 0 0] 26)) B g A cap zs p 3 (h.alloc _) (by omega) (by decide) (by decide)).mono ?_
  rintro e w2 ⟨m, x1, x2, x3, xs, ys, ss, q, rfl, ho, hf, hq, hD, hG⟩
  have R2 : Hid (Blk w2 w.heap.size 26 #[.int .i64 0, .slice none 0 0, .slice none 0 0, .slice none 0 0]) := Blk.stay (Blk.new w _ _) hG.out (fun e => by cases e; omega)
  have hs2 : w.heap.size + 1 ≤ w2.heap.size := Blk.lt R2.out
  have HO : Hid (AOwn w2 (w.heap.size + 1) x1 x2 x3 xs ys ss) := ho.out.base (by simp)
  have G2 := Lib.hid (grow_trans (World.grownBy_alloc w (.cells #[.int .i64 0, .slice none 0 0, .slice none 0 0, .slice none 0 0] 26) (some g)) hG.out)
  clear ho hG h
  go_wp2_with fail
  refine (bad_any w2 (w.heap.size + 1) B g A cap zs q m x1 x2 x3 xs ys ss hD.out (by omega) HO.out hf.out (by omega) hs2).mono ?_
  rintro e w3 ⟨m', y1, y2, y3, us, vs, ts, q', rfl, ho', hf', hq', hD', hG'⟩
  obtain ⟨A1, c1, A2, c2, A3, c3, rfl, rfl, rfl⟩ := ho'.out.forms
  have R3 := Lib.hid (R2.out.stay hG'.out (fun e => by cases e; omega))
  have G3 := Lib.hid (grow_trans G2.out hG'.out)
  clear HO hf hD hG' R2 G2
  obtain ⟨d0, d1, d2, d3⟩ := four_cells R3.out
  obtain ⟨f0, f1, f2, f3⟩ := four_frozen R3.out
  go_wp2_with fail
  refine bodyPost_ret (results_1 rfl (Gives.row (g := w.heap.size) rfl (four_set R3.out _ _ _ _) Tryd.underlying26 rfl (by kernel_rfl))) rfl ?_
  exact ⟨m', _, _, _, us, vs, ts, q', rfl, (aown_four ho'.out R3.out m' _ _ _).base (Nat.le_succ _), hf', by omega, hD'.out.grown (fourV_grow _ w.heap.size m' _ _ _) (fun j hj => by cases hj; exact hgw), grow_own G3.out (fourV_grow _ w.heap.size m' _ _ _) (fun j hj => by cases hj; exact Nat.le_refl _)⟩

/-- What a drawing function leaves that opens the bytes and draws an automaton. -/
def DrawnZ (w : World) (e : Ending) (w' : World) : Prop :=
  ∃ (m : Int) (x1 x2 x3 : Value) (xs ys : List Int) (ss : List StepD), e = .returned (.agg #[.int .i64 m, x1, x2, x3]) ∧ Hid (AOwn w' w.heap.size x1 x2 x3 xs ys ss) ∧ Hid (AFew2 xs ys ss) ∧ Hid (Below w.heap.size w w')
end Go.Proofs.YtfdbbopanankgaaDoor
namespace Go.Proofs.YtfdbbopanankgaaDoor
open Go.RowKit
set_option maxHeartbeats 4000000
set_option maxRecDepth 100000
set_option linter.unusedVariables false

/-- What a drawing function leaves that returns an automaton and a word. -/
def DrawnAW (base B g : Nat) (A : Option Addr) (cap : Nat) (zs : List Int) (p K : Nat) (w : World) (e : Ending) (w' : World) : Prop :=
  ∃ (m : Int) (x1 x2 x3 : Value) (xs ys : List Int) (ss : List StepD) (s : ByteArray) (q : Nat), e = .returned (.tuple #[.agg #[.int .i64 m, x1, x2, x3], .string s]) ∧ Hid (AOwn w' base x1 x2 x3 xs ys ss) ∧ Hid (AFew2 xs ys ss) ∧ s.size ≤ 10 ∧ q ≤ p + K ∧ Hid (Rd w' B g A cap zs q) ∧ Hid (w.grownBy w' (some g))
/-- .. that opens the bytes first. -/
def DrawnZW (w : World) (e : Ending) (w' : World) : Prop :=
  ∃ (m : Int) (x1 x2 x3 : Value) (xs ys : List Int) (ss : List StepD) (s : ByteArray), e = .returned (.tuple #[.agg #[.int .i64 m, x1, x2, x3], .string s]) ∧ Hid (AOwn w' w.heap.size x1 x2 x3 xs ys ss) ∧ Hid (AFew2 xs ys ss) ∧ s.size ≤ 10 ∧ Hid (Below w.heap.size w w')
end Go.Proofs.YtfdbbopanankgaaDoor
