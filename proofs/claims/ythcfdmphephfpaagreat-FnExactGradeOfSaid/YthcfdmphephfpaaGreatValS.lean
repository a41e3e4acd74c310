/- The value of an expression, the model's; in new memory; nothing that was there changes. Condition: the text is no longer than 2^20. -/
import Derived.Test.YthcfdmphephfpaaGreatValF
import Derived.Test.YthcfdmphephfpaaGreatGSpec2
import Derived.Test.YthcfdmphephfpaaGreatExValid
namespace Go.Proofs.YthcfdmphephfpaaGreat
open Go.RowKit
set_option maxHeartbeats 4000000
set_option maxRecDepth 100000
set_option linter.unusedVariables false

/-- The value, part by part. -/
def valT (n : Nat) (ss : List StepD) : List Int → Tx → Option (List Int)
  | acc, .nil => some acc
  | acc, .lit b r => valT n ss (gmulL n acc (grL (stepL n ss (litB b)))) r
  | acc, .rep i r => match valT n ss (gunitL n) i with
    | some a => if gmulL n a a = a then valT n ss (gmulL n acc (stabL n a)) r else none
    | none => none
def accV (n : Nat) (ss : List StepD) : Option Ex → Option (List Int)
  | none => some (gunitL n)
  | some x => valueE n ss x
theorem ex_val {n : Nat} {ss : List StepD} (n1 : 1 ≤ n) (n2 : n ≤ 4) (hok : ∀ s ∈ ss, stepOk n s = true) : ∀ (t : Tx) (acc : Option Ex) (y : Ex), t.ex acc = some y → valueE n ss y = (accV n ss acc).bind fun a => valT n ss a t
  | .nil, acc, y, h => by
    have : acc = some y := h
    subst this
    simp only [accV]
    cases valueE n ss y <;> rfl
  | .lit b r, acc, y, h => by
    rw [ex_val n1 n2 hok r _ y h]
    cases acc with
    | none =>
      simp only [addE, accV, valueE, Option.bind_some, valT]
      rw [gunit_mulL (grL_GV (stepL_ok n1 n2 hok _))]
    | some x =>
      simp only [addE, accV, valueE]
      cases valueE n ss x <;> rfl
  | .rep i r, acc, y, h => by
    simp only [Tx.ex] at h
    cases hi : i.ex none with
    | none => rw [hi] at h; cases h
    | some x =>
      rw [hi] at h
      have e1 := ex_val n1 n2 hok i none x hi
      simp only [accV, Option.bind_some] at e1
      rw [ex_val n1 n2 hok r _ y h]
      cases hv : valT n ss (gunitL n) i with
      | none =>
        rw [hv] at e1
        cases acc with
        | none => simp only [addE, accV, valueE, e1, Option.bind_some, valT, hv]; rfl
        | some z =>
          simp only [addE, accV, valueE, e1, valT, hv]
          cases valueE n ss z <;> rfl
      | some a =>
        rw [hv] at e1
        have hg := value_GV n1 n2 hok x a e1
        by_cases hd : gmulL n a a = a
        · cases acc with
          | none =>
            simp only [addE, accV, valueE, e1, Option.bind_some, valT, hv, if_pos hd]
            rw [gunit_mulL (stabL_ok hg)]
          | some z =>
            simp only [addE, accV, valueE, e1, valT, hv, if_pos hd]
            cases valueE n ss z <;> rfl
        · cases acc with
          | none => simp only [addE, accV, valueE, e1, Option.bind_some, valT, hv, if_neg hd]; rfl
          | some z =>
            simp only [addE, accV, valueE, e1, valT, hv, if_neg hd]
            cases valueE n ss z <;> rfl
theorem valT_GV {n : Nat} {ss : List StepD} (n1 : 1 ≤ n) (n2 : n ≤ 4) (hok : ∀ s ∈ ss, stepOk n s = true) : ∀ (t : Tx) (acc a : List Int), GV n acc → valT n ss acc t = some a → GV n a
  | .nil, acc, a, hg, h => by cases h; exact hg
  | .lit b r, acc, a, hg, h => valT_GV n1 n2 hok r _ a (gmulL_ok hg (grL_GV (stepL_ok n1 n2 hok _))) h
  | .rep i r, acc, a, hg, h => by
    simp only [valT] at h
    cases hv : valT n ss (gunitL n) i with
    | none => rw [hv] at h; cases h
    | some u =>
      rw [hv] at h
      simp only at h
      split at h
      · exact valT_GV n1 n2 hok r _ a (gmulL_ok hg (stabL_ok (valT_GV n1 n2 hok i _ u (gunitL_ok n1 n2) hv))) h
      · cases h
theorem ba_is {p : ByteArray} {l : List UInt8} (h : p.data.toList = l) : p = ⟨l.toArray⟩ := by
  subst h
  rfl
def szV_ : Value → Nat
  | .string q => q.size
  | _ => 0
theorem grL_unit_ (n : Nat) : grL (unitL n) = gunitL n := by
  unfold grL unitL gunitL ofF
  rw [List.map_map]
  apply List.map_congr_left
  intro p _
  show gr (unitF (p / n) (p % n)) = gunitF (p / n) (p % n)
  unfold unitF gunitF
  split <;> rfl
/-- A matrix in a variable. -/
def MV2 (w : World) (B O : Nat) (n p : Nat) (acc : List Int) : Prop := ∃ A cap, Blk w O 28 #[.int .i64 n, .slice A p cap] ∧ w.ownsRow B 3 1 (.slice A p cap) p (acc.map (Value.int .i64)) ∧ acc.length = p
theorem MV2.below {w w' : World} {B O n p : Nat} {acc : List Int} (h : MV2 w B O n p acc) (hb : Below w.heap.size w w') : MV2 w' B O n p acc := by
  obtain ⟨A, cap, h1, h2, h3⟩ := h
  exact ⟨A, cap, blk_b h1 hb, own_under h2 hb, h3⟩
theorem MV2.alloc {w : World} {B O n p : Nat} {acc : List Int} (h : MV2 w B O n p acc) (o : Obj) : MV2 (w.alloc o) B O n p acc := h.below ((Below.refl _ _).alloc (Nat.le_refl _) o)
theorem own_set1 {w : World} {base V k : Nat} {x : Value} {zs : List Value} {cs : Array Value} (h : w.ownsRow base 3 1 x k zs) (hV : Blk w V 28 cs) (i : Nat) (v : Value) : (w.setCell ⟨V, i, none⟩ v).ownsRow base 3 1 x k zs := by
  refine h.kept (grow_set w V i v) (Or.inr ?_)
  intro e
  exact own_other h hV (by decide) e.symm
theorem MV2.set_ {w : World} {B O V n p : Nat} {acc : List Int} {cs : Array Value} (h : MV2 w B O n p acc) (hV : Blk w V 28 cs) (_ht : 3 ≠ 28) (hne : ¬ V = O) (i : Nat) (v : Value) : MV2 (w.setCell ⟨V, i, none⟩ v) B O n p acc := by
  obtain ⟨A, cap, h1, h2, h3⟩ := h
  exact ⟨A, cap, h1.other V i v hne, own_set1 h2 hV i v, h3⟩
theorem mv2_fin {w2 : World} {B V base cap n p : Nat} {zs : List Int} {A : Option Addr} {u0 u1 : Value} (rc : Blk w2 V 28 #[u0, u1]) (ho : w2.ownsRow base 3 1 (.slice A p cap) p (zs.map (Value.int .i64))) (hB : B ≤ base) (hl : zs.length = p) :
    MV2 ((w2.setCell ⟨V, 0, none⟩ (.int .i64 n)).setCell ⟨V, 1, none⟩ (.slice A p cap)) B V n p zs :=
  ⟨A, cap, (rc.set_ 0 _).set_ 1 _, own_base (own_set1 (own_set1 ho rc 0 _) (rc.set_ 0 _) 1 _) hB, hl⟩
theorem matOwn_p {w : World} {base p : Nat} {v : Value} {n : Nat} {zs : List Int} (h : MatOwn w base v n zs) (hp : zs.length = p) : ∃ A cap, v = .agg #[.int .i64 n, .slice A p cap] ∧ w.ownsRow base 3 1 (.slice A p cap) p (zs.map (Value.int .i64)) ∧ zs.length = p := by
  subst hp
  obtain ⟨x, rfl, ho, hl⟩ := h
  obtain ⟨A, cap, rfl, _, hi⟩ := own_ints ho (by unfold maxLen; omega)
  exact ⟨A, cap, rfl, ho, rfl⟩
theorem own_Ip {w : World} {base cap p : Nat} {A : Option Addr} {zs : List Int} (h : w.ownsRow base 3 1 (.slice A p cap) p (zs.map (Value.int .i64))) (hl : zs.length = p) (hp : p ≤ 1048577) : Ints w w.heap.size A zs := by
  subst hl
  exact own_I h hp
theorem GV.inH {n : Nat} {zs : List Int} (h : GV n zs) : Hid (GIn n (cel n zs)) := h.in_
def VN (n : Nat) (ss : List StepD) (m : Nat) : Prop := ∀ (t : Tx) (s : ByteArray) (x1 x2 c1 c2 c3 : Nat) (A1 A2 A3 : Option Addr) (w : World), t.good = true → t.text.length < m → s.data.toList = t.text → s.size ≤ 120 → SRow w w.heap.size A3 ss →
  Calls Tryz.prog 20 #[.agg #[.int .i64 n, .slice A1 x1 c1, .slice A2 x2 c2, .slice A3 ss.length c3], .string s] w fun e w' => MEnd ((valT n ss (gunitL n) t).map fun a => ((n : Int), a)) w e w'
theorem valC (n : Nat) (ss : List StepD) (n1 : 1 ≤ n) (n2 : n ≤ 4) (hok : ∀ s ∈ ss, stepOk n s = true) (m : Nat) (ih : VN n ss m) : VN n ss (m + 1) := by
  intro t s x1 x2 c1 c2 c3 A1 A2 A3 w hg hm hs hz hr
  have HI := Lib.hid ih
  have HN := Lib.hid hm
  have HG := Lib.hid hg
  have HSS := Lib.hid hs
  have HZ := Lib.hid hz
  have HSI := Lib.hid hok
  have HROW := Lib.hid hr
  obtain ⟨pp, hpp⟩ : ∃ pp, pp = n * n := ⟨_, rfl⟩
  have hpb16 : pp ≤ 16 := by
    rw [hpp]
    calc n * n ≤ 4 * 4 := Nat.mul_le_mul n2 n2
      _ = 16 := rfl
  have hpb : pp ≤ 1048577 := by omega
  have HPP : Hid (pp = n * n) := hpp
  have HUL : Hid ((unitL n).length = pp) := by show _ = _; unfold unitL; rw [ofF_len]; exact hpp.symm
  have HGU : Hid (GV n (gunitL n)) := gunitL_ok n1 n2
  have B0 := Lib.hid (below_a2 w (.cells #[.int .i64 n, .slice A1 x1 c1, .slice A2 x2 c2, .slice A3 ss.length c3] 33) (.cells #[.int .i64 0, .slice none 0 0] 28))
  have K0 : Hid (Blk ((w.alloc (.cells #[.int .i64 n, .slice A1 x1 c1, .slice A2 x2 c2, .slice A3 ss.length c3] 33)).alloc (.cells #[.int .i64 0, .slice none 0 0] 28)) w.heap.size 33 #[.int .i64 n, .slice A1 x1 c1, .slice A2 x2 c2, .slice A3 ss.length c3]) := (Blk.new _ _ _).alloc _
  have R0 : Hid (Blk ((w.alloc (.cells #[.int .i64 n, .slice A1 x1 c1, .slice A2 x2 c2, .slice A3 ss.length c3] 33)).alloc (.cells #[.int .i64 0, .slice none 0 0] 28)) (w.heap.size + 1) 28 #[.int .i64 0, .slice none 0 0]) := blk_new (by simp)
  have hs0 : w.heap.size + 2 ≤ ((w.alloc (.cells #[.int .i64 n, .slice A1 x1 c1, .slice A2 x2 c2, .slice A3 ss.length c3] 33)).alloc (.cells #[.int .i64 0, .slice none 0 0] 28)).heap.size := by simp
  have HS0 := Lib.hid hs0
  clear ih hm hg hs hz hok hr hpp hs0
  go_enter Tryz.func20, Tryz.ntmps20
  go_wp2_with fail
  refine (l2Unit_any n _ n1 n2).mono ?_
  rintro e w2 ⟨v, rfl, hv, hb⟩
  obtain ⟨A, cap, rfl, ho, hl⟩ := matOwn_p (p := pp) hv HUL.out
  have B2 := Lib.hid (below_on B0.out hb)
  have K2 := Lib.hid (blk_b K0.out hb)
  have R2 := Lib.hid (blk_b R0.out hb)
  have HI2 := Lib.hid (own_Ip ho hl hpb)
  have HS2 : Hid (w.heap.size + 2 ≤ w2.heap.size) := Nat.le_trans HS0.out hb.size
  clear hv hb ho hl B0 K0 R0
  go_wp2_with fail
  refine (l6Grades_any n pp A cap (unitL n) _ hpb16 HUL HI2.out).mono ?_
  rintro e w3 ⟨v, rfl, hv, hb⟩
  rw [grL_unit_] at hv
  obtain ⟨A', cap', rfl, ho, hl⟩ := matOwn_p (p := pp) hv (HGU.out.len.trans HPP.out.symm)
  obtain ⟨w4, hw4⟩ : ∃ w4, w4 = w3.alloc (.cells #[.int .i64 n, .slice A' pp cap'] 28) := ⟨_, rfl⟩
  obtain ⟨O, hO⟩ : ∃ O, O = w3.heap.size := ⟨_, rfl⟩
  have M4 : Hid (MV2 w4 w.heap.size O n pp (gunitL n)) := by
    rw [hw4, hO]
    exact ⟨A', cap', Blk.new _ _ _, own_base (ho.alloc _) (by have := HS2.out; omega), hl⟩
  have B4 : Hid (Below w.heap.size w w4) := by rw [hw4]; exact below_al (below_on B2.out hb) (Nat.le_refl _) _
  have K4 : Hid (Blk w4 w.heap.size 33 #[.int .i64 n, .slice A1 x1 c1, .slice A2 x2 c2, .slice A3 ss.length c3]) := by rw [hw4]; exact (blk_b K2.out hb).alloc _
  have R4 : Hid (Blk w4 (w.heap.size + 1) 28 #[.int .i64 0, .slice none 0 0]) := by rw [hw4]; exact (blk_b R2.out hb).alloc _
  have hOw : w.heap.size + 2 ≤ O := by rw [hO]; exact Nat.le_trans HS2.out hb.size
  have S4 : Hid (O < w4.heap.size) := by rw [hw4, hO]; show _ < _; simp
  clear hv hb ho hl B2 K2 R2 HI2
  go_wp2_with fail
  rw [← hw4, ← hO]
  clear hw4 hO
  go_loopw [1] (fun e wr => ∃ (s' : ByteArray) (r : Tx) (acc : List Int), e = .string s' ∧ Hid (s'.data.toList = r.text) ∧ Hid (r.good = true) ∧ Hid (r.text.length ≤ t.text.length) ∧ Hid (s'.size ≤ 120) ∧ Hid (GV n acc) ∧ Hid (valT n ss (gunitL n) t = valT n ss acc r) ∧ Hid (MV2 wr w.heap.size O n pp acc) ∧ Hid (Blk wr w.heap.size 33 #[.int .i64 n, .slice A1 x1 c1, .slice A2 x2 c2, .slice A3 ss.length c3]) ∧ Hid (Blk wr (w.heap.size + 1) 28 #[.int .i64 0, .slice none 0 0]) ∧ Hid (Below w.heap.size w wr) ∧ Hid (O < wr.heap.size)) (fun e _ => szV_ e)
  case atStart => exact ⟨s, t, gunitL n, rfl, HSS.out, HG.out, Nat.le_refl _, HZ.out, HGU.out, rfl, M4.out, K4.out, R4.out, B4.out, S4.out⟩
  case round =>
    clear M4 K4 R4 B4 S4
    obtain ⟨s', r0, acc, rfl, hs, hg, hle, hz, hgv, hvt, hmv, hk, hr0, hb, hS⟩ := hrel
    cases r0 with
    | nil =>
      have he : s'.toList.isEmpty = true := by rw [ByteArray.toList_eq, hs.out]; rfl
      have HR : Hid ((valT n ss (gunitL n) t).map (fun a => ((n : Int), a)) = some ((n : Int), acc)) := by show _ = _; rw [hvt.out]; rfl
      obtain ⟨A, cap, ob, oo, ol⟩ := hmv.out
      obtain ⟨o0, o1⟩ := two_cells ob
      obtain ⟨d0, d1⟩ := two_cells hr0.out
      obtain ⟨f0, f1⟩ := two_frozen hr0.out
      have HOO := Lib.hid oo
      have HOL := Lib.hid ol
      clear oo ol ob
      go_wp2_with fail
      have HF := mv2_fin (B := w.heap.size) (n := n) hr0.out HOO.out (Nat.le_refl _) HOL.out
      obtain ⟨A', cap', h1, h2, h3⟩ := HF
      have G := grow_trans (grow_set wr (w.heap.size + 1) 0 (.int .i64 n)) (grow_set _ (w.heap.size + 1) 1 (.slice A pp cap))
      have e1 := ((hr0.out.set_ 0 (.int .i64 n)).set_ 1 (.slice A pp cap))
      have e2 := h1.symm.trans e1
      injection e2 with e2
      injection e2 with e2
      simp at e2
      obtain ⟨rfl, rfl⟩ := e2
      refine bodyPost_ret (results_2 rfl (gives_mat (g := w.heap.size + 1) rfl h1) (.tmp rfl)) rfl ?_
      refine MEnd.some_ HR.out ⟨_, rfl, ?_, by rw [h3]; exact hpb⟩ (hb.out.grown G hb.out.size (fun j hj => by cases hj; omega))
      rw [h3]
      exact h2
    | lit b r =>
      have he : s'.toList.isEmpty = false := by rw [ByteArray.toList_eq, hs.out]; rfl
      go_wp2_with fail
      refine (next_lit s' b r.text _ hs.out).mono ?_
      rintro e w1 ⟨q, qr, hp, hq, rfl, hb1⟩
      obtain rfl : q = litB b := ba_is hp
      have HQR := Lib.hid hq
      have HRG := Lib.hid hg.out
      have HQRL : Hid (qr.size < s'.size) := by
        show _ < _
        rw [size_len, size_len, hq, hs.out]; simp [Tx.text]
      have HQRZ : Hid (qr.size ≤ 120) := by have := HQRL.out; have := hz.out; show _ ≤ _; omega
      have HLE : Hid (r.text.length ≤ t.text.length) := by have := hle.out; simp only [Tx.text, List.length_cons] at this; show _ ≤ _; omega
      obtain ⟨gg, hgg⟩ : ∃ gg, gg = grL (stepL n ss (litB b)) := ⟨_, rfl⟩
      have HVT : Hid (valT n ss (gunitL n) t = valT n ss (gmulL n acc gg) r) := by show _ = _; rw [hvt.out, hgg]; rfl
      have HGG : Hid (GV n gg) := by rw [hgg]; exact grL_GV (stepL_ok n1 n2 HSI.out _)
      have HGGE := Lib.hid hgg
      have hstl : Hid ((stepL n ss (litB b)).length = pp) := (stepL_len _ _ _).trans HPP.out.symm
      obtain ⟨w2, hw2⟩ : ∃ w2, w2 = w1.alloc (.cells #[.int .i64 0, .slice none 0 0] 28) := ⟨_, rfl⟩
      obtain ⟨Mb, hMb⟩ : ∃ Mb, Mb = w1.heap.size := ⟨_, rfl⟩
      have M2 : Hid (Blk w2 Mb 28 #[.int .i64 0, .slice none 0 0]) := by rw [hw2, hMb]; exact Blk.new _ _ _
      have V2 : Hid (MV2 w2 w.heap.size O n pp acc) := by rw [hw2]; exact (hmv.out.below hb1).alloc _
      have K2 : Hid (Blk w2 w.heap.size 33 #[.int .i64 n, .slice A1 x1 c1, .slice A2 x2 c2, .slice A3 ss.length c3]) := by rw [hw2]; exact (blk_b hk.out hb1).alloc _
      have R2 : Hid (Blk w2 (w.heap.size + 1) 28 #[.int .i64 0, .slice none 0 0]) := by rw [hw2]; exact (blk_b hr0.out hb1).alloc _
      have B2 : Hid (Below w.heap.size w w2) := by rw [hw2]; exact below_al (below_on hb.out hb1) (Nat.le_refl _) _
      have hMO : ¬ Mb = O := by have h1 := hS.out; have h2 := hb1.size; omega
      have hMw : w.heap.size + 2 ≤ Mb := by have h1 := hS.out; have h2 := hb1.size; omega
      have S2 : Hid (O < w2.heap.size) := by have h1 := hS.out; have h2 := hb1.size; show _ < _; rw [hw2]; simp; omega
      have hM2s : Mb < w2.heap.size := by rw [hw2, hMb]; simp
      have kk := blk_b hk.out hb1
      have k0 := fun o => (kk.alloc o).cell 0
      have k1 := fun o => (kk.alloc o).cell 1
      have k2 := fun o => (kk.alloc o).cell 2
      have k3 := fun o => (kk.alloc o).cell 3
      dsimp at k0 k1 k2 k3
      clear hb1 hmv hk hr0 hb hS hp hq he kk hs hg hle hz hvt hgg
      go_wp2_with fail
      rw [← hw2, ← hMb]
      clear hw2 hMb k0 k1 k2 k3
      refine (l3Matrix_any n x1 x2 c1 c2 c3 A1 A2 A3 ss (litB b) (stepL n ss (litB b)) _ n1 n2 (HROW.out.on B2.out) HSI.out (by cases b <;> first | exact .inl rfl | exact .inr rfl) rfl).mono ?_
      rintro e w3 ⟨v, rfl, hv, hb⟩
      obtain ⟨A, cap, rfl, ho, hl⟩ := matOwn_p (p := pp) hv hstl.out
      have M3 := Lib.hid (blk_b M2.out hb)
      have V3 := Lib.hid (V2.out.below hb)
      have K3 := Lib.hid (blk_b K2.out hb)
      have R3 := Lib.hid (blk_b R2.out hb)
      have B3 := Lib.hid (below_on B2.out hb)
      have S3 : Hid (O < w3.heap.size) := Nat.lt_of_lt_of_le S2.out hb.size
      have HI3 := Lib.hid (own_Ip ho hl hpb)
      clear hv hb ho hl M2 V2 K2 R2 B2 S2
      go_wp2_with fail
      refine (l6Grades_any n pp A cap (stepL n ss (litB b)) _ hpb16 hstl HI3.out).mono ?_
      rintro e w5 ⟨v, rfl, hv, hb⟩
      rw [← HGGE.out] at hv
      obtain ⟨Ag, capg, rfl, hog', hgl'⟩ := matOwn_p (p := pp) hv (HGG.out.len.trans HPP.out.symm)
      have hog := Lib.hid hog'
      have hgl := Lib.hid hgl'
      have HGB : Hid (w.heap.size ≤ w3.heap.size) := B3.out.size
      have HMB := Lib.hid (blk_b M3.out hb)
      have hacc := V3.out.below hb
      have HK5 := Lib.hid (blk_b K3.out hb)
      have HR5 := Lib.hid (blk_b R3.out hb)
      have HB5 := Lib.hid (below_on B3.out hb)
      have HS5 : Hid (O < w5.heap.size) := Nat.lt_of_lt_of_le S3.out hb.size
      clear hv hb hog' hgl' M3 V3 K3 R3 B3 S3 HI3 HGGE
      have HOA := Lib.hid hacc
      obtain ⟨A, cap, ob, oo, ol⟩ := HOA.out
      have o0 := ob.cell 0
      have o1 := ob.cell 1
      dsimp at o0 o1
      obtain ⟨d0, d1⟩ := two_cells HMB.out
      obtain ⟨f0, f1⟩ := two_frozen HMB.out
      obtain ⟨w6, hw6⟩ : ∃ w6, w6 = (w5.setCell ⟨Mb, 0, none⟩ (.int .i64 n)).setCell ⟨Mb, 1, none⟩ (.slice Ag pp capg) := ⟨_, rfl⟩
      have F6 : Hid (MV2 w6 w.heap.size Mb n pp gg) := by rw [hw6]; exact mv2_fin HMB.out hog.out HGB.out hgl.out
      have O6 : Hid (MV2 w6 w.heap.size O n pp acc) := by rw [hw6]; exact (HOA.out.set_ HMB.out (by decide) hMO 0 _).set_ (HMB.out.set_ 0 _) (by decide) hMO 1 _
      have G6 : Hid (w5.grownBy w6 (some Mb)) := by rw [hw6]; exact grow_trans (grow_set w5 Mb 0 _) (grow_set _ Mb 1 _)
      have B6 : Hid (Below w.heap.size w w6) := HB5.out.grown G6.out HB5.out.size (fun j hj => by cases hj; omega)
      have K6 : Hid (Blk w6 w.heap.size 33 #[.int .i64 n, .slice A1 x1 c1, .slice A2 x2 c2, .slice A3 ss.length c3]) := by rw [hw6]; exact (HK5.out.other Mb 0 _ (by omega)).other Mb 1 _ (by omega)
      have R6 : Hid (Blk w6 (w.heap.size + 1) 28 #[.int .i64 0, .slice none 0 0]) := by rw [hw6]; exact (HR5.out.other Mb 0 _ (by omega)).other Mb 1 _ (by omega)
      have I1 : Hid (Ints w6 w6.heap.size A acc) := by
        obtain ⟨A', cap', h1, h2, h3⟩ := O6.out
        have e1 : Blk w6 O 28 #[.int .i64 n, .slice A pp cap] := by rw [hw6]; exact (ob.other Mb 0 _ hMO).other Mb 1 _ hMO
        have e2 := h1.symm.trans e1
        injection e2 with e2
        injection e2 with e2
        simp at e2
        obtain ⟨rfl, rfl⟩ := e2
        exact own_Ip h2 h3 hpb
      have I2 : Hid (Ints w6 w6.heap.size Ag gg) := by
        have h2 := own_set1 (own_set1 hog.out HMB.out 0 (.int .i64 n)) (HMB.out.set_ 0 (.int .i64 n)) 1 (.slice Ag pp capg)
        rw [← hw6] at h2
        exact own_Ip h2 hgl.out hpb
      have S6 : Hid (O < w6.heap.size) := Nat.lt_of_lt_of_le HS5.out G6.out.size
      clear HOA oo hog HMB HGB HB5 HK5 HR5 G6 HS5 hacc
      go_wp2_with fail
      rw [← hw6]
      clear hw6 o0 o1 d0 d1 f0 f1 ob
      refine (l6Mul_any n pp A Ag cap capg acc gg _ n1 n2 hpb16 HPP ol hgl.out hgv.out.inH HGG.out.inH I1.out I2.out).mono ?_
      rintro e w7 ⟨v7, rfl, hv7, hb7⟩
      have hgm := gmulL_ok hgv.out HGG.out
      obtain ⟨A7, cap7, rfl, ho7, hl7⟩ := matOwn_p (p := pp) hv7 (hgm.len.trans HPP.out.symm)
      have O7 := Lib.hid (O6.out.below hb7)
      have B7 := Lib.hid (below_on B6.out hb7)
      have K7 := Lib.hid (blk_b K6.out hb7)
      have R7 := Lib.hid (blk_b R6.out hb7)
      have S7 : Hid (O < w7.heap.size) := Nat.lt_of_lt_of_le S6.out hb7.size
      have HO7 := Lib.hid ho7
      have HB67 : Hid (w.heap.size ≤ w6.heap.size) := B6.out.size
      obtain ⟨A8, cap8, ob8, oo8, ol8⟩ := O7.out
      obtain ⟨q0, q1⟩ := two_cells ob8
      obtain ⟨g0, g1⟩ := two_frozen ob8
      have OB8 := Lib.hid ob8
      have HGM := Lib.hid hgm
      have HL7 := Lib.hid hl7
      clear hb7 ho7 hv7 ob8 oo8 ol8 hgm hl7 O6 B6 K6 R6 S6 F6 I1 I2
      go_wp2_with fail
      go_roundw
      case rel =>
        refine ⟨qr, r, gmulL n acc gg, rfl, HQR.out, HRG.out, HLE.out, HQRZ.out, HGM.out, HVT.out, mv2_fin OB8.out HO7.out HB67.out HL7.out, ?_, ?_, ?_, ?_⟩
        · exact (K7.out.other O 0 _ (by omega)).other O 1 _ (by omega)
        · exact (R7.out.other O 0 _ (by omega)).other O 1 _ (by omega)
        · exact (B7.out.setCell (p := ⟨O, 0, none⟩) (by show w.heap.size ≤ O; omega) _).setCell (p := ⟨O, 1, none⟩) (by show w.heap.size ≤ O; omega) _
        · have := S7.out; show O < _; simpa using this
      case measure => exact HQRL.out
    | rep i r =>
      have he : s'.toList.isEmpty = false := by rw [ByteArray.toList_eq, hs.out]; rfl
      have hgg := hg.out
      simp only [Tx.good, Bool.and_eq_true] at hgg
      obtain ⟨⟨hia, hig⟩, hrg⟩ := hgg
      have HIG := Lib.hid hig
      have HIA := Lib.hid hia
      have HRG := Lib.hid hrg
      clear hig hia hrg
      go_wp2_with fail
      refine (next_rep s' i r.text _ (by have := hz.out; omega) HIA.out HIG.out hs.out).mono ?_
      rintro e w1 ⟨q, qr, hp, hq, rfl, hb1⟩
      have HP := Lib.hid hp
      have HQR := Lib.hid hq
      have HQRL : Hid (qr.size < s'.size) := by
        show _ < _
        rw [size_len, size_len, hq, hs.out]; simp [Tx.text]; omega
      have HPZ : Hid (q.size ≤ 120) := by
        have h1 := hz.out
        show _ ≤ _
        rw [size_len, hs.out] at h1
        rw [size_len, hp]; simp [Tx.text] at h1; omega
      have HQRZ : Hid (qr.size ≤ 120) := by have := HQRL.out; have := hz.out; show _ ≤ _; omega
      have HLE : Hid (r.text.length ≤ t.text.length) := by have := hle.out; simp only [Tx.text, List.length_cons, List.length_append] at this; show _ ≤ _; omega
      have HIL : Hid (i.text.length < m) := by
        have h1 := hle.out
        have h2 := HN.out
        simp only [Tx.text, List.length_cons, List.length_append] at h1
        show _ < _
        omega
      obtain ⟨w2, hw2⟩ : ∃ w2, w2 = w1.alloc (.cells #[.int .i64 0, .slice none 0 0] 28) := ⟨_, rfl⟩
      obtain ⟨Mb, hMb⟩ : ∃ Mb, Mb = w1.heap.size := ⟨_, rfl⟩
      have M2 : Hid (Blk w2 Mb 28 #[.int .i64 0, .slice none 0 0]) := by rw [hw2, hMb]; exact Blk.new _ _ _
      have V2 : Hid (MV2 w2 w.heap.size O n pp acc) := by rw [hw2]; exact (hmv.out.below hb1).alloc _
      have K2 : Hid (Blk w2 w.heap.size 33 #[.int .i64 n, .slice A1 x1 c1, .slice A2 x2 c2, .slice A3 ss.length c3]) := by rw [hw2]; exact (blk_b hk.out hb1).alloc _
      have R2 : Hid (Blk w2 (w.heap.size + 1) 28 #[.int .i64 0, .slice none 0 0]) := by rw [hw2]; exact (blk_b hr0.out hb1).alloc _
      have B2 : Hid (Below w.heap.size w w2) := by rw [hw2]; exact below_al (below_on hb.out hb1) (Nat.le_refl _) _
      have hMO : ¬ Mb = O := by have h1 := hS.out; have h2 := hb1.size; omega
      have hMw : w.heap.size + 2 ≤ Mb := by have h1 := hS.out; have h2 := hb1.size; omega
      have S2 : Hid (O < w2.heap.size) := by have h1 := hS.out; have h2 := hb1.size; show _ < _; rw [hw2]; simp; omega
      have hM2s : Mb < w2.heap.size := by rw [hw2, hMb]; simp
      have kk := blk_b hk.out hb1
      have k0 := fun o => (kk.alloc o).cell 0
      have k1 := fun o => (kk.alloc o).cell 1
      have k2 := fun o => (kk.alloc o).cell 2
      have k3 := fun o => (kk.alloc o).cell 3
      dsimp at k0 k1 k2 k3
      clear hb1 hmv hk hr0 hb hS hp hq he kk hs hg hle hz
      go_wp2_with fail
      rw [← hw2, ← hMb]
      clear hw2 hMb k0 k1 k2 k3
      refine (HI.out i q x1 x2 c1 c2 c3 A1 A2 A3 _ HIG.out HIL.out HP.out HPZ.out (HROW.out.on B2.out)).mono ?_
      intro e w3 hE
      cases hvi : valT n ss (gunitL n) i with
      | none =>
        have HVN : Hid ((valT n ss (gunitL n) t).map (fun a => ((n : Int), a)) = none) := by show _ = _; rw [hvt.out]; simp only [valT, hvi]; rfl
        rw [hvi] at hE
        obtain ⟨A, cap, rfl, ho3, hl3, hb3⟩ := mend_open (p := (0, [])) hE rfl
        have R3 := Lib.hid (blk_b R2.out hb3.out)
        have B3 := Lib.hid (below_on B2.out hb3.out)
        clear hE hb3 ho3 hvt hvi V2 M2 K2 R2 B2
        have d0 := fun o => (R3.out.alloc o).cell 0
        have d1 := fun o => (R3.out.alloc o).cell 1
        have f0 := fun o => (R3.out.alloc o).frozen 0
        have f1 := fun o => (R3.out.alloc o).frozen 1
        dsimp at d0 d1
        simp only [Option.map_none, Option.isSome_none]
        go_wp2_with fail
        refine bodyPost_ret (results_2 rfl (gives_mat (g := w.heap.size + 1) rfl (((R3.out.alloc _).set_ 0 _).set_ 1 _)) (.tmp rfl)) rfl ?_
        exact MEnd.none_ HVN.out (((below_al B3.out (Nat.le_refl _) _).setCell (p := ⟨_, 0, none⟩) (Nat.le_succ _) _).setCell (p := ⟨_, 1, none⟩) (Nat.le_succ _) _)
      | some a =>
        have hga := valT_GV n1 n2 HSI.out i _ a HGU.out hvi
        have hal : a.length = pp := hga.len.trans HPP.out.symm
        have HGA := Lib.hid hga
        have HAL := Lib.hid hal
        rw [hvi] at hE
        obtain ⟨A, cap, rfl, ho3, hl3, hb3⟩ := mend_open (p := ((n : Int), a)) hE rfl
        dsimp only at ho3 hl3
        rw [hal] at ho3
        have M3 := Lib.hid (blk_b M2.out hb3.out)
        have V3 := Lib.hid (V2.out.below hb3.out)
        have K3 := Lib.hid (blk_b K2.out hb3.out)
        have R3 := Lib.hid (blk_b R2.out hb3.out)
        have B3 := Lib.hid (below_on B2.out hb3.out)
        have S3 : Hid (O < w3.heap.size) := Nat.lt_of_lt_of_le S2.out hb3.out.size
        have hM3s : Mb < w3.heap.size := Nat.lt_of_lt_of_le hM2s hb3.out.size
        obtain ⟨w4, hw4⟩ : ∃ w4, w4 = w3.alloc (.cells #[.int .i64 n, .slice A pp cap] 28) := ⟨_, rfl⟩
        obtain ⟨Ib, hIb⟩ : ∃ Ib, Ib = w3.heap.size := ⟨_, rfl⟩
        have I4 : Hid (Blk w4 Ib 28 #[.int .i64 n, .slice A pp cap]) := by rw [hw4, hIb]; exact Blk.new _ _ _
        have M4 : Hid (Blk w4 Mb 28 #[.int .i64 0, .slice none 0 0]) := by rw [hw4]; exact M3.out.alloc _
        have V4 : Hid (MV2 w4 w.heap.size O n pp acc) := by rw [hw4]; exact V3.out.alloc _
        have K4 : Hid (Blk w4 w.heap.size 33 #[.int .i64 n, .slice A1 x1 c1, .slice A2 x2 c2, .slice A3 ss.length c3]) := by rw [hw4]; exact K3.out.alloc _
        have R4 : Hid (Blk w4 (w.heap.size + 1) 28 #[.int .i64 0, .slice none 0 0]) := by rw [hw4]; exact R3.out.alloc _
        have B4 : Hid (Below w.heap.size w w4) := by rw [hw4]; exact below_al B3.out (Nat.le_refl _) _
        have S4 : Hid (O < w4.heap.size) := by rw [hw4]; have := S3.out; show _ < _; simp; omega
        have X4 : Hid (Ints w4 w4.heap.size A a) := by rw [hw4]; exact own_Ip (ho3.out.alloc _) hal hpb
        simp only [Option.map_some, Option.isSome_some]
        rw [hal]
        clear hE hb3 ho3 hl3 V2 M2 K2 R2 B2 S2 M3 V3 K3 R3 B3 S3 hga hal
        go_wp2_with fail
        rw [← hw4]
        clear hw4
        by_cases hid : gmulL n a a = a
        · obtain ⟨gg, hgg⟩ : ∃ gg, gg = stabL n a := ⟨_, rfl⟩
          have HVT : Hid (valT n ss (gunitL n) t = valT n ss (gmulL n acc gg) r) := by show _ = _; rw [hvt.out, hgg]; simp only [valT, hvi, if_pos hid]
          have HGG : Hid (GV n gg) := by rw [hgg]; exact stabL_ok HGA.out
          have HGGE := Lib.hid hgg
          clear hvt hvi hgg
          refine (l6Idem_is n pp A cap a true _ n1 n2 hpb16 HPP HAL HGA.out.inH X4.out (decide_eq_true hid)).mono ?_
          rintro e w6 ⟨rfl, hb6⟩
          have I6 := blk_b I4.out hb6
          have M6 := Lib.hid (blk_b M4.out hb6)
          have V6 := Lib.hid (V4.out.below hb6)
          have K6' := Lib.hid (blk_b K4.out hb6)
          have R6' := Lib.hid (blk_b R4.out hb6)
          have B6' := Lib.hid (below_on B4.out hb6)
          have S6' : Hid (O < w6.heap.size) := Nat.lt_of_lt_of_le S4.out hb6.size
          have X6 := Lib.hid ((X4.out.below hb6).more hb6.size)
          obtain ⟨j0, j1⟩ := two_cells I6
          rw [← hIb]
          clear hb6 I4 M4 V4 K4 R4 B4 S4 X4 hid hIb I6
          go_wp2_with fail
          refine (l6Stable_any n pp A cap a _ n1 n2 hpb16 HPP HAL HGA.out.inH X6.out).mono ?_
          rintro e w5 ⟨v, rfl, hv, hb⟩
          rw [← HGGE.out] at hv
          obtain ⟨Ag, capg, rfl, hog', hgl'⟩ := matOwn_p (p := pp) hv (HGG.out.len.trans HPP.out.symm)
          have hog := Lib.hid hog'
          have hgl := Lib.hid hgl'
          have HGB : Hid (w.heap.size ≤ w6.heap.size) := B6'.out.size
          have HMB := Lib.hid (blk_b M6.out hb)
          have hacc := V6.out.below hb
          have HK5 := Lib.hid (blk_b K6'.out hb)
          have HR5 := Lib.hid (blk_b R6'.out hb)
          have HB5 := Lib.hid (below_on B6'.out hb)
          have HS5 : Hid (O < w5.heap.size) := Nat.lt_of_lt_of_le S6'.out hb.size
          clear hv hb hog' hgl' M6 V6 K6' R6' B6' S6' X6 HGGE j0 j1
          have HOA := Lib.hid hacc
          obtain ⟨A, cap, ob, oo, ol⟩ := HOA.out
          have o0 := ob.cell 0
          have o1 := ob.cell 1
          dsimp at o0 o1
          obtain ⟨d0, d1⟩ := two_cells HMB.out
          obtain ⟨f0, f1⟩ := two_frozen HMB.out
          obtain ⟨w6, hw6⟩ : ∃ w6, w6 = (w5.setCell ⟨Mb, 0, none⟩ (.int .i64 n)).setCell ⟨Mb, 1, none⟩ (.slice Ag pp capg) := ⟨_, rfl⟩
          have F6 : Hid (MV2 w6 w.heap.size Mb n pp gg) := by rw [hw6]; exact mv2_fin HMB.out hog.out HGB.out hgl.out
          have O6 : Hid (MV2 w6 w.heap.size O n pp acc) := by rw [hw6]; exact (HOA.out.set_ HMB.out (by decide) hMO 0 _).set_ (HMB.out.set_ 0 _) (by decide) hMO 1 _
          have G6 : Hid (w5.grownBy w6 (some Mb)) := by rw [hw6]; exact grow_trans (grow_set w5 Mb 0 _) (grow_set _ Mb 1 _)
          have B6 : Hid (Below w.heap.size w w6) := HB5.out.grown G6.out HB5.out.size (fun j hj => by cases hj; omega)
          have K6 : Hid (Blk w6 w.heap.size 33 #[.int .i64 n, .slice A1 x1 c1, .slice A2 x2 c2, .slice A3 ss.length c3]) := by rw [hw6]; exact (HK5.out.other Mb 0 _ (by omega)).other Mb 1 _ (by omega)
          have R6 : Hid (Blk w6 (w.heap.size + 1) 28 #[.int .i64 0, .slice none 0 0]) := by rw [hw6]; exact (HR5.out.other Mb 0 _ (by omega)).other Mb 1 _ (by omega)
          have I1 : Hid (Ints w6 w6.heap.size A acc) := by
            obtain ⟨A', cap', h1, h2, h3⟩ := O6.out
            have e1 : Blk w6 O 28 #[.int .i64 n, .slice A pp cap] := by rw [hw6]; exact (ob.other Mb 0 _ hMO).other Mb 1 _ hMO
            have e2 := h1.symm.trans e1
            injection e2 with e2
            injection e2 with e2
            simp at e2
            obtain ⟨rfl, rfl⟩ := e2
            exact own_Ip h2 h3 hpb
          have I2 : Hid (Ints w6 w6.heap.size Ag gg) := by
            have h2 := own_set1 (own_set1 hog.out HMB.out 0 (.int .i64 n)) (HMB.out.set_ 0 (.int .i64 n)) 1 (.slice Ag pp capg)
            rw [← hw6] at h2
            exact own_Ip h2 hgl.out hpb
          have S6 : Hid (O < w6.heap.size) := Nat.lt_of_lt_of_le HS5.out G6.out.size
          clear HOA oo hog HMB HGB HB5 HK5 HR5 G6 HS5 hacc
          go_wp2_with fail
          rw [← hw6]
          clear hw6 o0 o1 d0 d1 f0 f1 ob
          refine (l6Mul_any n pp A Ag cap capg acc gg _ n1 n2 hpb16 HPP ol hgl.out hgv.out.inH HGG.out.inH I1.out I2.out).mono ?_
          rintro e w7 ⟨v7, rfl, hv7, hb7⟩
          have hgm := gmulL_ok hgv.out HGG.out
          obtain ⟨A7, cap7, rfl, ho7, hl7⟩ := matOwn_p (p := pp) hv7 (hgm.len.trans HPP.out.symm)
          have O7 := Lib.hid (O6.out.below hb7)
          have B7 := Lib.hid (below_on B6.out hb7)
          have K7 := Lib.hid (blk_b K6.out hb7)
          have R7 := Lib.hid (blk_b R6.out hb7)
          have S7 : Hid (O < w7.heap.size) := Nat.lt_of_lt_of_le S6.out hb7.size
          have HO7 := Lib.hid ho7
          have HB67 : Hid (w.heap.size ≤ w6.heap.size) := B6.out.size
          obtain ⟨A8, cap8, ob8, oo8, ol8⟩ := O7.out
          obtain ⟨q0, q1⟩ := two_cells ob8
          obtain ⟨g0, g1⟩ := two_frozen ob8
          have OB8 := Lib.hid ob8
          have HGM := Lib.hid hgm
          have HL7 := Lib.hid hl7
          clear hb7 ho7 hv7 ob8 oo8 ol8 hgm hl7 O6 B6 K6 R6 S6 F6 I1 I2
          go_wp2_with fail
          go_roundw
          case rel =>
            refine ⟨qr, r, gmulL n acc gg, rfl, HQR.out, HRG.out, HLE.out, HQRZ.out, HGM.out, HVT.out, mv2_fin OB8.out HO7.out HB67.out HL7.out, ?_, ?_, ?_, ?_⟩
            · exact (K7.out.other O 0 _ (by omega)).other O 1 _ (by omega)
            · exact (R7.out.other O 0 _ (by omega)).other O 1 _ (by omega)
            · exact (B7.out.setCell (p := ⟨O, 0, none⟩) (by show w.heap.size ≤ O; omega) _).setCell (p := ⟨O, 1, none⟩) (by show w.heap.size ≤ O; omega) _
            · have := S7.out; show O < _; simpa using this
          case measure => exact HQRL.out
        · have HVN : Hid ((valT n ss (gunitL n) t).map (fun a => ((n : Int), a)) = none) := by show _ = _; rw [hvt.out]; simp only [valT, hvi, if_neg hid]; rfl
          clear hvt hvi
          refine (l6Idem_is n pp A cap a false _ n1 n2 hpb16 HPP HAL HGA.out.inH X4.out (decide_eq_false hid)).mono ?_
          rintro e w6 ⟨rfl, hb6⟩
          have R6' := Lib.hid (blk_b R4.out hb6)
          have B6' := Lib.hid (below_on B4.out hb6)
          clear hb6 I4 M4 V4 K4 R4 B4 S4 X4 hid
          obtain ⟨d0, d1⟩ := two_cells R6'.out
          obtain ⟨f0, f1⟩ := two_frozen R6'.out
          go_wp2_with fail
          refine bodyPost_ret (results_2 rfl (gives_mat (g := w.heap.size + 1) rfl ((R6'.out.set_ 0 _).set_ 1 _)) (.tmp rfl)) rfl ?_
          exact MEnd.none_ HVN.out ((B6'.out.setCell (p := ⟨_, 0, none⟩) (Nat.le_succ _) _).setCell (p := ⟨_, 1, none⟩) (Nat.le_succ _) _)
theorem val_all (n : Nat) (ss : List StepD) (n1 : 1 ≤ n) (n2 : n ≤ 4) (hok : ∀ s ∈ ss, stepOk n s = true) : ∀ m, VN n ss m
  | 0 => fun t s x1 x2 c1 c2 c3 A1 A2 A3 w _ h => absurd h (by omega)
  | m + 1 => valC n ss n1 n2 hok m (val_all n ss n1 n2 hok m)
end Go.Proofs.YthcfdmphephfpaaGreat
