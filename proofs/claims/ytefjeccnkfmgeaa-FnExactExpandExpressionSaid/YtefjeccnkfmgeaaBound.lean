/- The bound of an expression, the program's and the model's; nothing that was there changes. No condition. -/
import Derived.Test.YtefjeccnkfmgeaaOfW
import Derived.Test.YtefjeccnkfmgeaaNextP
import Derived.Test.YtefjeccnkfmgeaaExValid
import Derived.Test.YtefjeccnkfmgeaaRes
import Derived.Laws.EntriesVeiled
namespace Go.Proofs.Ytefjeccnkfmgeaa
open Go.RowKit
set_option maxHeartbeats 2000000
set_option maxRecDepth 100000
set_option linter.unusedVariables false

/-- The weight, part by part. -/
def weightT (l n : Int) : Int → Tx → Int
  | a, .nil => a
  | a, .lit _ r => weightT l n (min (a + l) 1000000) r
  | a, .rep i r => weightT l n (min (a + timesF n (weightT l n 0 i)) 1000000) r
def accW (l n : Int) : Option Ex → Int
  | none => 0
  | some x => weightE l n x
theorem ex_weight {l n : Int} (h0 : 0 ≤ l) (h1 : l ≤ 1000000) (hn : 0 ≤ n) : ∀ (t : Tx) (acc : Option Ex) (y : Ex), t.ex acc = some y → weightE l n y = weightT l n (accW l n acc) t
  | .nil, acc, y, h => by
    have : acc = some y := h
    subst this
    rfl
  | .lit b r, acc, y, h => by
    rw [ex_weight h0 h1 hn r _ y h]
    cases acc with
    | none =>
      simp only [addE, accW, weightE, weightT]
      congr 1; omega
    | some x => rfl
  | .rep i r, acc, y, h => by
    simp only [Tx.ex] at h
    cases hi : i.ex none with
    | none => rw [hi] at h; cases h
    | some x =>
      rw [hi] at h
      have e1 := ex_weight h0 h1 hn i none x hi
      rw [ex_weight h0 h1 hn r _ y h]
      have hb := weight_vld h0 h1 hn x
      have hb2 := timesF_vld hn hb.1 hb.2
      cases acc with
      | none =>
        simp only [addE, accW, weightE, weightT] at e1 ⊢
        rw [← e1]
        congr 1; omega
      | some z =>
        simp only [addE, accW, weightE, weightT] at e1 ⊢
        rw [← e1]
theorem weightT_vld {l n : Int} (h0 : 0 ≤ l) (h1 : l ≤ 1000000) (hn : 0 ≤ n) : ∀ (t : Tx) (a : Int), 0 ≤ a → a ≤ 1000000 → 0 ≤ weightT l n a t ∧ weightT l n a t ≤ 1000000
  | .nil, a, h, h' => ⟨h, h'⟩
  | .lit _ r, a, h, h' => weightT_vld h0 h1 hn r _ (by omega) (by omega)
  | .rep i r, a, h, h' => by
    have hi := weightT_vld h0 h1 hn i 0 (Int.le_refl _) (by omega)
    have ht := timesF_vld hn hi.1 hi.2
    exact weightT_vld h0 h1 hn r _ (by omega) (by omega)
theorem text_nil {t : Tx} (h : t.text = []) : t = .nil := by
  cases t with
  | nil => rfl
  | lit b r => cases h
  | rep i r => cases h
def szV : Value → Nat
  | .string q => q.size
  | _ => 0
def BN (n : Nat) : Prop := ∀ (t : Tx) (s : ByteArray) (w : World), t.good = true → t.text.length < n → s.data.toList = t.text → s.size ≤ 1048576 →
  Calls Try.prog 24 #[.string s] w fun e w' => e = .returned (.int .i64 (weightT 3 2 0 t)) ∧ Below w.heap.size w w'
theorem ret_int2 {x y : Int} (h : x = y) : Ending.returned (.int .i64 x) = .returned (.int .i64 y) := by rw [h]
theorem boundC (n : Nat) (ih : BN n) : BN (n + 1) := by
  intro t s w hg hn hs hz
  have HI := Lib.hid ih
  have HN := Lib.hid hn
  have HG := Lib.hid hg
  have HS := Lib.hid hs
  have HZ := Lib.hid hz
  clear ih hn hg hs hz
  go_enter Try.func24, Try.ntmps24
  go_wp2_with fail
  go_loopw [0, 3] (fun e o wr => ∃ (s' : ByteArray) (r : Tx) (a : Int), e = .string s' ∧ o = .int .i64 a ∧ 0 ≤ a ∧ a ≤ 1000000 ∧ Hid (s'.data.toList = r.text) ∧ Hid (r.good = true) ∧ Hid (r.text.length ≤ t.text.length) ∧ Hid (weightT 3 2 0 t = weightT 3 2 a r) ∧ Hid (s'.size ≤ 1048576) ∧ Hid (Below w.heap.size w wr)) (fun e _ _ => szV e)
  case atStart => exact ⟨s, t, 0, rfl, rfl, by omega, by omega, HS.out, HG.out, Nat.le_refl _, rfl, HZ.out, Below.refl _ _⟩
  case round =>
    obtain ⟨s', r, a, rfl, rfl, a0, a1, hs, hg, hle, hw, hz, hb⟩ := hrel
    cases r with
    | nil =>
      have he : s'.toList.isEmpty = true := by rw [ByteArray.toList_eq, hs.out]; rfl
      go_wp2_with fail
      go_ret
      exact ⟨ret_int2 hw.out.symm, hb.out⟩
    | lit b r =>
      have he : s'.toList.isEmpty = false := by rw [ByteArray.toList_eq, hs.out]; rfl
      go_wp2_with fail
      refine (next_lit s' b r.text _ hs.out).mono ?_
      rintro e w1 ⟨p, q, hp, hq, rfl, hb1⟩
      have HB1 := Lib.hid (hb.out.trans (hb1.mono hb.out.size))
      have HQ := Lib.hid hq
      have HQZ : Hid (q.size < s'.size) := by
        show _ < _
        rw [size_len, size_len, hq, hs.out]; simp [Tx.text]
      clear hb1 hp hq he
      go_wp2_with fail
      refine (l1Add_any a 3 _ a0 a1 (by omega) (by omega)).mono ?_
      rintro e w2 ⟨rfl, rfl⟩
      obtain ⟨a', ha'⟩ : ∃ a', a' = min (a + 3) 1000000 := ⟨_, rfl⟩
      have HA := Lib.hid ha'
      rw [← ha']
      have a2 : 0 ≤ a' := by omega
      have a3 : a' ≤ 1000000 := by omega
      clear ha'
      go_wp2_with fail
      go_roundw
      case rel => exact ⟨q, r, a', rfl, rfl, a2, a3, HQ.out, hg.out, (by have := hle.out; simp only [Tx.text, List.length_cons] at this; show _ ≤ _; omega), (by rw [HA.out]; exact hw.out), (by have := HQZ.out; have := hz.out; show q.size ≤ 1048576; omega), HB1.out⟩
      case measure => exact HQZ.out
    | rep i r =>
      have he : s'.toList.isEmpty = false := by rw [ByteArray.toList_eq, hs.out]; rfl
      have hgg := hg.out
      simp only [Tx.good, Bool.and_eq_true] at hgg
      obtain ⟨⟨hia, hig⟩, hrg⟩ := hgg
      have HIG := Lib.hid hig
      have HIA := Lib.hid hia
      have HRG := Lib.hid hrg
      clear hig hia hrg
      go_wp2_with fail
      refine (next_rep s' i r.text _ hz.out HIA.out HIG.out hs.out).mono ?_
      rintro e w1 ⟨p, q, hp, hq, rfl, hb1⟩
      have HB1 := Lib.hid (hb.out.trans (hb1.mono hb.out.size))
      have HP := Lib.hid hp
      have HQ := Lib.hid hq
      have HQZ : Hid (q.size < s'.size) := by
        show _ < _
        rw [size_len, size_len, hq, hs.out]; simp [Tx.text]; omega
      have HPZ : Hid (p.size < s'.size) := by
        show _ < _
        rw [size_len, size_len, hp, hs.out]; simp [Tx.text]; omega
      have HIL : Hid (i.text.length < n) := by
        have h1 := hle.out
        have h2 := HN.out
        simp only [Tx.text, List.length_cons, List.length_append] at h1
        show _ < _
        omega
      clear hb1 hp hq he
      go_wp2_with fail
      refine (HI.out i p _ HIG.out HIL.out HP.out (by have := HPZ.out; have := hz.out; omega)).mono ?_
      rintro e w2 ⟨rfl, hb2⟩
      have HB2 := Lib.hid (HB1.out.trans (hb2.mono HB1.out.size))
      clear hb2
      have hwi := weightT_vld (l := 3) (n := 2) (by omega) (by omega) (by omega) i 0 (by omega) (by omega)
      have hti := timesF_vld (n := 2) (by omega) hwi.1 hwi.2
      go_wp2_with fail
      refine (sTimesCost_any 2 _ _).mono ?_
      rintro e w3 ⟨rfl, rfl⟩
      go_wp2_with fail
      refine (l1Add_any a _ _ a0 a1 hti.1 hti.2).mono ?_
      rintro e w4 ⟨rfl, rfl⟩
      obtain ⟨a', ha'⟩ : ∃ a', a' = min (a + timesF 2 (weightT 3 2 0 i)) 1000000 := ⟨_, rfl⟩
      have HA := Lib.hid ha'
      rw [← ha']
      have a2 : 0 ≤ a' := by omega
      have a3 : a' ≤ 1000000 := by omega
      clear ha'
      go_wp2_with fail
      go_roundw
      case rel => exact ⟨q, r, a', rfl, rfl, a2, a3, HQ.out, HRG.out, (by have := hle.out; simp only [Tx.text, List.length_cons, List.length_append] at this; show _ ≤ _; omega), (by rw [HA.out]; exact hw.out), (by have := HQZ.out; have := hz.out; show q.size ≤ 1048576; omega), HB2.out⟩
      case measure => exact HQZ.out
theorem bound_all : ∀ n, BN n
  | 0 => fun t s w _ h => absurd h (by omega)
  | n + 1 => boundC n (bound_all n)
def boundR (l : List UInt8) : Int := match nodeF l with
  | some x => weightE 3 2 x
  | none => -1
theorem boundR_no {l : List UInt8} (h : validB l = false) : boundR l = -1 := by
  rw [valid_node] at h
  unfold boundR
  cases hn : nodeF l with
  | none => rfl
  | some x => rw [hn] at h; cases h
/-- A valid text as its parts and its nodes. -/
theorem valid_parts {l : List UInt8} (h : validB l = true) : ∃ t y, parseT l = some t ∧ l = t.text ∧ t.good = true ∧ t.any = true ∧ t.ex none = some y ∧ nodeF l = some y := by
  unfold validB at h
  cases hp : parseT l with
  | none => rw [hp] at h; cases h
  | some t =>
    obtain ⟨e, hg, hs, _⟩ := parse_spec hp
    obtain ⟨y, hy⟩ := Tx.ex_none hs hg
    exact ⟨t, y, rfl, e, hg, hs, hy, by rw [node_parse, hp]; exact hy⟩
theorem sBound_is (s : ByteArray) (w : World) (hs : s.size ≤ 1048576) :
    Calls Try.prog 14 #[.string s] w fun e w' => e = .returned (.int .i64 (boundR s.data.toList)) ∧ Below w.heap.size w w' := by
  cases hv : validB s.data.toList with
  | false =>
    have HV := Lib.hid hv
    have HR := Lib.hid (boundR_no hv)
    clear hv
    go_enter Try.func14, Try.ntmps14
    go_wp2_with fail
    refine (sValid_is s false _ hs HV.out).mono ?_
    rintro e w' ⟨rfl, rfl⟩
    go_wp2_with fail
    go_ret
    exact ⟨ret_int2 HR.out.symm, Below.refl _ _⟩
  | true =>
    have HV := Lib.hid hv
    obtain ⟨t, y, hp, ht, hg, ha, hy, hn⟩ := valid_parts hv
    have HR : Hid (boundR s.data.toList = weightT 3 2 0 t) := by
      show _ = _
      unfold boundR
      rw [hn]
      exact ex_weight (by omega) (by omega) (by omega) t none y hy
    have HB := Lib.hid (bound_all (t.text.length + 1) t s w hg (Nat.lt_succ_self _) ht hs)
    clear hv hp ht hg ha hy hn
    go_enter Try.func14, Try.ntmps14
    go_wp2_with fail
    refine (sValid_is s true _ hs HV.out).mono ?_
    rintro e w' ⟨rfl, rfl⟩
    go_wp2_with fail
    refine HB.out.mono ?_
    rintro e w1 ⟨rfl, hb⟩
    go_wp2_with fail
    go_ret
    exact ⟨ret_int2 HR.out.symm, hb⟩
theorem weights_any (l n : Int) (w : World) :
    Calls Try.prog 25 #[.int .i64 l, .int .i64 n] w fun e w' => ∃ p q : Nat, e = .returned (meaningW p q) ∧ Blk w' p 41 #[.int .i64 l] ∧ Blk w' q 3 #[.int .i64 n] ∧ Below w.heap.size w w' := by
  unfold meaningW
  have hmf : ∀ (fn : Fn) (first cap : Array Value) (w : World), (Instr.makeFunc fn first cap).run Try.prog w = .ok (.func fn first cap) w := fun _ _ _ _ => rfl
  have HP : Hid (∀ o, Blk (((w.alloc (.cells #[.int .i64 l] 41)).alloc (.cells #[.int .i64 n] 3)).alloc o) w.heap.size 41 #[.int .i64 l]) := fun o => ((Blk.new _ _ _).alloc _).alloc _
  have HQ : Hid (∀ o, Blk (((w.alloc (.cells #[.int .i64 l] 41)).alloc (.cells #[.int .i64 n] 3)).alloc o) (w.heap.size + 1) 3 #[.int .i64 n]) := fun o => by
    have h := Blk.new (w.alloc (.cells #[.int .i64 l] 41)) 3 #[.int .i64 n]
    have e : (w.alloc (.cells #[.int .i64 l] 41)).heap.size = w.heap.size + 1 := by simp
    rw [e] at h
    exact h.alloc o
  have HB : Hid (∀ o, Below w.heap.size w (((w.alloc (.cells #[.int .i64 l] 41)).alloc (.cells #[.int .i64 n] 3)).alloc o)) := fun o => (((Below.refl _ _).alloc (Nat.le_refl _) _).alloc (by simp) _).alloc (by simp; omega) _
  have HM : Hid (∀ cs, Blk (((w.alloc (.cells #[.int .i64 l] 41)).alloc (.cells #[.int .i64 n] 3)).alloc (.cells cs 46)) (w.heap.size + 1 + 1) 46 cs) := fun cs => by
    have h := Blk.new ((w.alloc (.cells #[.int .i64 l] 41)).alloc (.cells #[.int .i64 n] 3)) 46 cs
    have e : ((w.alloc (.cells #[.int .i64 l] 41)).alloc (.cells #[.int .i64 n] 3)).heap.size = w.heap.size + 1 + 1 := by simp
    rw [e] at h
    exact h
  go_enter Try.func25, Try.ntmps25
  go_wp2_with fail
  refine bodyPost_ret (results_1 rfl (Gives.row (g := w.heap.size + 1 + 1) rfl (HM.out _) Try.underlying46 rfl (by kernel_rfl))) rfl ?_
  exact ⟨w.heap.size, w.heap.size + 1, rfl, HP.out _, HQ.out _, HB.out _⟩
theorem iBound_is (s : ByteArray) (w : World) :
    Calls Try.prog 15 #[.string s] w fun e w' => e = .returned (.int .i64 (boundR s.data.toList)) ∧ Below w.heap.size w w' := by
  cases hn : nodeF s.data.toList with
  | none =>
    have HN := Lib.hid hn
    have HR : Hid (boundR s.data.toList = -1) := by show _ = _; unfold boundR; rw [hn]
    clear hn
    go_enter Try.func15, Try.ntmps15
    go_wp2_with fail
    refine (nodeOf_no s _ HN.out).mono ?_
    rintro e w' ⟨rfl, hb⟩
    go_wp2_with fail
    go_ret
    exact ⟨ret_int2 HR.out.symm, hb⟩
  | some x =>
    have HN := Lib.hid hn
    have HR : Hid (boundR s.data.toList = weightE 3 2 x) := by show _ = _; unfold boundR; rw [hn]
    clear hn
    go_enter Try.func15, Try.ntmps15
    go_wp2_with fail
    refine (nodeOf_yes s _ x HN.out).mono ?_
    rintro e w1 ⟨rfl, hb⟩
    have HB := Lib.hid hb
    clear hb
    obtain ⟨t0, v0, hx0⟩ := exV_iface x
    rw [hx0]
    go_wp2_with fail
    refine (weights_any 3 2 _).mono ?_
    rintro e w2 ⟨p, q, rfl, hp, hq, hb2⟩
    have HB2 := Lib.hid (HB.out.trans (hb2.mono HB.out.size))
    have hc := ofW_all p q 3 2 (by omega) (by omega) (by omega) x w2 hp hq
    rw [hx0] at hc
    have HC := Lib.hid hc
    clear hb2 hp hq hc
    go_wp2_with fail
    refine HC.out.mono ?_
    rintro e w3 ⟨rfl, hb3⟩
    have HB3 := Lib.hid (HB2.out.trans (hb3.mono HB2.out.size))
    clear hb3
    go_wp2_with fail
    go_ret
    exact ⟨ret_int2 HR.out.symm, HB3.out⟩
theorem FnExactBoundOf_walk (s : ByteArray) (hs : s.size ≤ maxLen) (W : World) :
    Calls Try.prog 6 #[.string s] W fun e W' => e = .returned (.bool true) ∧ Below W.heap.size W W' := by
  by_cases h : s.size ≤ 1048576
  · have h' : ¬ (1048576 : Int) < (s.size : Int) := by omega
    have hc1 := sBound_is s W h
    have hc2 := fun w => iBound_is s w
    obtain ⟨q, hq⟩ : ∃ q, boundR s.data.toList = q := ⟨_, rfl⟩
    rw [hq] at hc1
    simp only [hq] at hc2
    have H1 := Lib.hid hc1
    have H2 := Lib.hid hc2
    have hbb : (q != q) = false := by simp
    clear hc1 hc2 hq
    go_enter Try.func6, Try.ntmps6
    go_wp2_with fail
    refine H1.out.mono ?_
    rintro e w1 ⟨rfl, hb1⟩
    have HB1 := Lib.hid hb1
    clear hb1
    go_wp2_with fail
    refine (H2.out _).mono ?_
    rintro e w2 ⟨rfl, hb2⟩
    have HB2 := Lib.hid (HB1.out.trans (hb2.mono HB1.out.size))
    clear hb2
    go_wp2_with fail
    go_ret
    exact ⟨rfl, HB2.out⟩
  · have h' : (1048576 : Int) < (s.size : Int) := by omega
    go_enter Try.func6, Try.ntmps6
    go_wp2_with fail
    go_ret
    exact ⟨rfl, Below.refl _ _⟩
end Go.Proofs.Ytefjeccnkfmgeaa
