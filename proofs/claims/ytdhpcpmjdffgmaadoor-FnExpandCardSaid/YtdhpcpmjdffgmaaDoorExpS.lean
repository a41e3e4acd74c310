/- The bound of an expression, the program's and the model's; nothing that was there changes. No condition. Plain mathematics of expansions: what is repeated stands so many times. No condition. The expansion of an expression, the model's; nothing that was there changes. Conditions: the text is no longer than 2^20; what is repeated stands once at least. -/
import Derived.Test.YtdhpcpmjdffgmaaDoorOfW
import Derived.Test.YtdhpcpmjdffgmaaDoorNextP
import Derived.Test.YtdhpcpmjdffgmaaDoorExValid
import Derived.Test.YtdhpcpmjdffgmaaDoorMats
import Derived.Laws.EntriesVeiled
namespace Go.Proofs.YtdhpcpmjdffgmaaDoor
open Go.RowKit
set_option maxHeartbeats 2000000
set_option maxRecDepth 100000
set_option linter.unusedVariables false

/-- The weight, part by part. -/
def weightT (l n : Int) : Int → Tx → Int
  | a, .nil => a
  | a, .lit _ r => weightT l n (min (a + l) 1000000) r
  | a, .rep i r => weightT l n (min (a + timesF n (weightT l n 0 i)) 1000000) r
def accW (l n : Int) : Option Ex → Int
  | none => 0
  | some x => weightE l n x
theorem ex_weight {l n : Int} (h0 : 0 ≤ l) (h1 : l ≤ 1000000) (hn : 0 ≤ n) : ∀ (t : Tx) (acc : Option Ex) (y : Ex), t.ex acc = some y → weightE l n y = weightT l n (accW l n acc) t
  | .nil, acc, y, h => by
    have : acc = some y := h
    subst this
    rfl
  | .lit b r, acc, y, h => by
    rw [ex_weight h0 h1 hn r _ y h]
    cases acc with
    | none =>
      simp only [addE, accW, weightE, weightT]
      congr 1; omega
    | some x => rfl
  | .rep i r, acc, y, h => by
    simp only [Tx.ex] at h
    cases hi : i.ex none with
    | none => rw [hi] at h; cases h
    | some x =>
      rw [hi] at h
      have e1 := ex_weight h0 h1 hn i none x hi
      rw [ex_weight h0 h1 hn r _ y h]
      have hb := weight_vld h0 h1 hn x
      have hb2 := timesF_vld hn hb.1 hb.2
      cases acc with
      | none =>
        simp only [addE, accW, weightE, weightT] at e1 ⊢
        rw [← e1]
        congr 1; omega
      | some z =>
        simp only [addE, accW, weightE, weightT] at e1 ⊢
        rw [← e1]
theorem weightT_vld {l n : Int} (h0 : 0 ≤ l) (h1 : l ≤ 1000000) (hn : 0 ≤ n) : ∀ (t : Tx) (a : Int), 0 ≤ a → a ≤ 1000000 → 0 ≤ weightT l n a t ∧ weightT l n a t ≤ 1000000
  | .nil, a, h, h' => ⟨h, h'⟩
  | .lit _ r, a, h, h' => weightT_vld h0 h1 hn r _ (by omega) (by omega)
  | .rep i r, a, h, h' => by
    have hi := weightT_vld h0 h1 hn i 0 (Int.le_refl _) (by omega)
    have ht := timesF_vld hn hi.1 hi.2
    exact weightT_vld h0 h1 hn r _ (by omega) (by omega)
theorem text_nil {t : Tx} (h : t.text = []) : t = .nil := by
  cases t with
  | nil => rfl
  | lit b r => cases h
  | rep i r => cases h
def szV : Value → Nat
  | .string q => q.size
  | _ => 0
theorem ret_int2 {x y : Int} (h : x = y) : Ending.returned (.int .i64 x) = .returned (.int .i64 y) := by rw [h]
def boundR (l : List UInt8) : Int := match nodeF l with
  | some x => weightE 3 2 x
  | none => -1
theorem boundR_no {l : List UInt8} (h : validB l = false) : boundR l = -1 := by
  rw [valid_node] at h
  unfold boundR
  cases hn : nodeF l with
  | none => rfl
  | some x => rw [hn] at h; cases h
/-- A valid text as its parts and its nodes. -/
theorem valid_parts {l : List UInt8} (h : validB l = true) : ∃ t y, parseT l = some t ∧ l = t.text ∧ t.good = true ∧ t.any = true ∧ t.ex none = some y ∧ nodeF l = some y := by
  unfold validB at h
  cases hp : parseT l with
  | none => rw [hp] at h; cases h
  | some t =>
    obtain ⟨e, hg, hs, _⟩ := parse_spec hp
    obtain ⟨y, hy⟩ := Tx.ex_none hs hg
    exact ⟨t, y, rfl, e, hg, hs, hy, by rw [node_parse, hp]; exact hy⟩
theorem weights_any (l n : Int) (w : World) :
    Calls Tryd.prog 29 #[.int .i64 l, .int .i64 n] w fun e w' => ∃ p q : Nat, e = .returned (meaningW p q) ∧ Blk w' p 60 #[.int .i64 l] ∧ Blk w' q 3 #[.int .i64 n] ∧ Below w.heap.size w w' := by
  unfold meaningW
  have hmf : ∀ (fn : Fn) (first cap : Array Value) (w : World), (Instr.makeFunc fn first cap).run Tryd.prog w = .ok (.func fn first cap) w := fun _ _ _ _ => rfl
  have HP : Hid (∀ o, Blk (((w.alloc (.cells #[.int .i64 l] 60)).alloc (.cells #[.int .i64 n] 3)).alloc o) w.heap.size 60 #[.int .i64 l]) := fun o => ((Blk.new _ _ _).alloc _).alloc _
  have HQ : Hid (∀ o, Blk (((w.alloc (.cells #[.int .i64 l] 60)).alloc (.cells #[.int .i64 n] 3)).alloc o) (w.heap.size + 1) 3 #[.int .i64 n]) := fun o => by
    have h := Blk.new (w.alloc (.cells #[.int .i64 l] 60)) 3 #[.int .i64 n]
    have e : (w.alloc (.cells #[.int .i64 l] 60)).heap.size = w.heap.size + 1 := by simp
    rw [e] at h
    exact h.alloc o
  have HB : Hid (∀ o, Below w.heap.size w (((w.alloc (.cells #[.int .i64 l] 60)).alloc (.cells #[.int .i64 n] 3)).alloc o)) := fun o => (((Below.refl _ _).alloc (Nat.le_refl _) _).alloc (by simp) _).alloc (by simp; omega) _
  have HM : Hid (∀ cs, Blk (((w.alloc (.cells #[.int .i64 l] 60)).alloc (.cells #[.int .i64 n] 3)).alloc (.cells cs 65)) (w.heap.size + 1 + 1) 65 cs) := fun cs => by
    have h := Blk.new ((w.alloc (.cells #[.int .i64 l] 60)).alloc (.cells #[.int .i64 n] 3)) 65 cs
    have e : ((w.alloc (.cells #[.int .i64 l] 60)).alloc (.cells #[.int .i64 n] 3)).heap.size = w.heap.size + 1 + 1 := by simp
    rw [e] at h
    exact h
  go_enter Tryd.func29, Tryd.ntmps29
  go_wp2_with fail
  refine bodyPost_ret (results_1 rfl (Gives.row (g := w.heap.size + 1 + 1) rfl (HM.out _) Tryd.underlying65 rfl (by kernel_rfl))) rfl ?_
  exact ⟨w.heap.size, w.heap.size + 1, rfl, HP.out _, HQ.out _, HB.out _⟩
end Go.Proofs.YtdhpcpmjdffgmaaDoor
namespace Go.Proofs.YtdhpcpmjdffgmaaDoor
open Go.RowKit
set_option linter.unusedVariables false

def repL (n : Nat) (l : List UInt8) : List UInt8 := (List.replicate n l).flatten
theorem repL_len (n : Nat) (l : List UInt8) : (repL n l).length = n * l.length := by
  unfold repL
  rw [List.length_flatten, List.map_replicate, List.sum_replicate_nat]
theorem repL_succ (n : Nat) (l : List UInt8) : repL (n + 1) l = repL n l ++ l := by
  unfold repL
  rw [List.replicate_succ', List.flatten_append]; simp
theorem repL_one (l : List UInt8) : repL 1 l = l := by simp [repL]
theorem repL_zero (l : List UInt8) : repL 0 l = [] := rfl
def expT (n : Nat) : Tx → List UInt8
  | .nil => []
  | .lit b r => chr b :: expT n r
  | .rep i r => repL n (expT n i) ++ expT n r
def expE (n : Nat) : Ex → List UInt8
  | .lit b => [chr b]
  | .join x y => expE n x ++ expE n y
  | .rep x => repL n (expE n x)
def accX (n : Nat) : Option Ex → List UInt8
  | none => []
  | some x => expE n x
theorem ex_exp (n : Nat) : ∀ (t : Tx) (acc : Option Ex) (y : Ex), t.ex acc = some y → expE n y = accX n acc ++ expT n t
  | .nil, acc, y, h => by
    have : acc = some y := h
    subst this
    simp [accX, expT]
  | .lit b r, acc, y, h => by
    rw [ex_exp n r _ y h]
    cases acc <;> simp [addE, accX, expE, expT]
  | .rep i r, acc, y, h => by
    simp only [Tx.ex] at h
    cases hi : i.ex none with
    | none => rw [hi] at h; cases h
    | some x =>
      rw [hi] at h
      have e1 := ex_exp n i none x hi
      simp only [accX, List.nil_append] at e1
      rw [ex_exp n r _ y h]
      cases acc <;> simp [addE, accX, expE, expT, e1]
/-- The weight with letters of weight 1 is the length, up to a million. -/
theorem times_len {n m : Nat} (hn : 1 ≤ n) : timesF n (min (m : Int) 1000000) = min ((n * m : Nat) : Int) 1000000 := by
  have hn0 : (0 : Int) ≤ (n : Int) := by omega
  have hv : vld (min (m : Int) 1000000) = true := vld_yes ⟨by omega, by omega⟩
  by_cases hz : m = 0
  · subst hz
    rw [timesF_zero hn0 hv (by omega)]
    simp only [Nat.mul_zero]
    omega
  · by_cases hm : m ≤ 1000000
    · have e : min (m : Int) 1000000 = m := by omega
      rw [e] at hv ⊢
      by_cases ho : (1000000 : Int) / m < n
      · rw [timesF_over hn0 hv (by omega) ho]
        have h1 : (1000000 : Int) < n * m := Int.lt_mul_of_ediv_lt (by omega) ho
        have h2 : ((n * m : Nat) : Int) = n * m := by push_cast; rfl
        omega
      · rw [timesF_in hn0 hv (by omega) ho]
        have h1 : (n : Int) * m ≤ 1000000 := Int.mul_le_of_le_ediv (by omega) (by omega)
        have h2 : ((n * m : Nat) : Int) = n * m := by push_cast; rfl
        omega
    · have e : min (m : Int) 1000000 = 1000000 := by omega
      rw [e] at hv ⊢
      have h3 : m ≤ n * m := Nat.le_mul_of_pos_left m hn
      by_cases ho : (1000000 : Int) / 1000000 < n
      · rw [timesF_over hn0 hv (by omega) ho]
        omega
      · rw [timesF_in hn0 hv (by omega) ho]
        have : (n : Int) = 1 := by
          have : (1000000 : Int) / 1000000 = 1 := by decide
          omega
        rw [this]
        omega
theorem weight_len {n : Nat} (hn : 1 ≤ n) : ∀ x : Ex, weightE 1 n x = min ((expE n x).length : Int) 1000000
  | .lit b => by simp only [weightE, expE, List.length_singleton]; omega
  | .join x y => by
    simp only [weightE, expE, weight_len hn x, weight_len hn y, List.length_append]
    omega
  | .rep x => by
    simp only [weightE, expE, weight_len hn x, repL_len]
    exact times_len hn
theorem weight_fits {n : Nat} (hn : 1 ≤ n) (x : Ex) : (1000 < weightE 1 n x) ↔ ¬ (expE n x).length ≤ 1000 := by
  rw [weight_len hn x]; omega
/-- How a text q tells a word W: whole, or too long as W is. -/
def Tells (W q : List UInt8) : Prop := (W.length ≤ 1000 → q = W) ∧ (¬ W.length ≤ 1000 → 1000 < q.length)
/-- A part's word has been written so many times as went in. -/
theorem step_fin {F O R W q : List UInt8} {T k : Nat} (hF : F = O ++ (repL T W ++ R)) (hq : Tells W q) (hT : 1 ≤ T) (hk : k ≤ T) (hend : k = T ∨ 1000 < (O ++ repL k q).length) :
    F = (O ++ repL k q) ++ R ∨ (1000 < (O ++ repL k q).length ∧ 1000 < F.length) := by
  have hFl : F.length = O.length + T * W.length + R.length := by rw [hF, List.length_append, List.length_append, repL_len]; omega
  have hOl : (O ++ repL k q).length = O.length + k * q.length := by rw [List.length_append, repL_len]
  by_cases hW : W.length ≤ 1000
  · have e := hq.1 hW
    subst e
    rcases hend with rfl | h
    · left; rw [hF, List.append_assoc]
    · right
      refine ⟨h, ?_⟩
      have : k * q.length ≤ T * q.length := Nat.mul_le_mul_right _ hk
      omega
  · have h1 := hq.2 hW
    right
    have h2 : W.length ≤ T * W.length := Nat.le_mul_of_pos_left _ hT
    refine ⟨?_, by omega⟩
    rcases hend with rfl | h
    · have h3 : q.length ≤ k * q.length := Nat.le_mul_of_pos_left _ hT
      omega
    · exact h
end Go.Proofs.YtdhpcpmjdffgmaaDoor
namespace Go.Proofs.YtdhpcpmjdffgmaaDoor
open Go.RowKit
set_option maxHeartbeats 4000000
set_option maxRecDepth 100000
set_option linter.unusedVariables false

def XN (n m : Nat) : Prop := ∀ (t : Tx) (s : ByteArray) (w : World), t.good = true → t.text.length < m → s.data.toList = t.text → s.size ≤ 120 →
  Calls Tryd.prog 19 #[.string s, .int .i64 n] w fun e w' => ∃ q : ByteArray, e = .returned (.string q) ∧ Tells (expT n t) q.data.toList ∧ q.size ≤ 1000 + 1000 * t.text.length ∧ Below w.heap.size w w'
theorem expandC (n m : Nat) (hn1 : 1 ≤ n) (hn2 : n ≤ 9223372036854775807) (ih : XN n m) : XN n (m + 1) := by
  intro t s w hg hm hs hz
  have HI := Lib.hid ih
  have HN := Lib.hid hm
  have HG := Lib.hid hg
  have HS := Lib.hid hs
  have HZ := Lib.hid hz
  clear ih hm hg hs hz
  go_enter Tryd.func19, Tryd.ntmps19
  go_wp2_with fail
  go_loopw [0, 5] (fun e oo wr => ∃ (s' : ByteArray) (r : Tx) (o : ByteArray), e = .string s' ∧ oo = .string o ∧ Hid (s'.data.toList = r.text) ∧ Hid (r.good = true) ∧ Hid (r.text.length ≤ t.text.length) ∧ Hid (s'.size ≤ 120) ∧ Hid (expT n t = o.data.toList ++ expT n r ∨ (1000 < o.data.toList.length ∧ 1000 < (expT n t).length)) ∧ Hid (o.size ≤ 1000 + 1000 * t.text.length) ∧ Hid (Below w.heap.size w wr)) (fun e _ _ => szV e)
  case atStart => exact ⟨s, t, ⟨#[]⟩, rfl, rfl, HS.out, HG.out, Nat.le_refl _, HZ.out, .inl rfl, Nat.zero_le _, Below.refl _ _⟩
  case round =>
    obtain ⟨s', r0, o, rfl, rfl, hs, hg, hle, hz, hI, hob, hb⟩ := hrel
    by_cases ho : o.size ≤ 1000
    · have ho' : (o.size : Int) ≤ 1000 := by omega
      have HIO : Hid (expT n t = o.data.toList ++ expT n r0) := by
        rcases hI.out with h | ⟨h, _⟩
        · exact h
        · rw [← size_len] at h; omega
      cases r0 with
      | nil =>
        have he : s'.toList.isEmpty = true := by rw [ByteArray.toList_eq, hs.out]; rfl
        have HE : Hid (Tells (expT n t) o.data.toList) := by
          have h : expT n t = o.data.toList := by rw [HIO.out]; simp [expT]
          show Tells _ _
          rw [h]
          exact ⟨fun _ => rfl, fun h => by omega⟩
        clear HIO
        go_wp2_with fail
        go_ret
        exact ⟨o, rfl, HE.out, hob.out, hb.out⟩
      | lit b r =>
        have he : s'.toList.isEmpty = false := by rw [ByteArray.toList_eq, hs.out]; rfl
        go_wp2_with fail
        refine (next_lit s' b r.text _ hs.out).mono ?_
        rintro e w1 ⟨q, qr, hp, hq, rfl, hb1⟩
        have HB1 := Lib.hid (hb.out.trans (hb1.mono hb.out.size))
        have HQR := Lib.hid hq
        have HRG := Lib.hid hg.out
        have HQRL : Hid (qr.size < s'.size) := by
          show _ < _
          rw [size_len, size_len, hq, hs.out]; simp [Tx.text]
        have HQRZ : Hid (qr.size ≤ 120) := by have := HQRL.out; have := hz.out; show _ ≤ _; omega
        have hq1 : q.size = 1 := by rw [size_len, hp]; rfl
        have HLE : Hid (r.text.length ≤ t.text.length) := by have := hle.out; simp only [Tx.text, List.length_cons] at this; show _ ≤ _; omega
        have HQB : Hid (q.size ≤ 1000 * t.text.length) := by have := hle.out; simp only [Tx.text, List.length_cons] at this; show _ ≤ _; omega
        have HTL : Hid (Tells q.data.toList q.data.toList) := ⟨fun _ => rfl, fun h => by omega⟩
        have HFO : Hid (expT n t = o.data.toList ++ (repL 1 q.data.toList ++ expT n r)) := by
          show _ = _
          rw [HIO.out, repL_one, hp]; rfl
        clear hb1 hq he hp HIO hI
        go_wp2_with fail
        go_loopw [11, 5] (fun kk oo wr2 => ∃ (k : Nat) (o' : ByteArray), kk = .int .i64 k ∧ oo = .string o' ∧ k ≤ 1 ∧ Hid (o'.data.toList = o.data.toList ++ repL k q.data.toList) ∧ Hid (o'.size ≤ 1000 + q.size) ∧ wr2 = w1) (fun kk _ _ => 1 - (intOf kk).toNat)
        case atStart => exact ⟨0, o, rfl, rfl, by omega, (by show _ = _; rw [repL_zero, List.append_nil]), (by show o.size ≤ 1000 + q.size; omega), rfl⟩
        case round =>
          obtain ⟨k, o', rfl, rfl, hk, hO, hOZ, rfl⟩ := hrel
          by_cases hkt : k < 1
          · have hkt' : (k : Int) < (1 : Int) := by omega
            have hk0 : (0 : Int) ≤ (k : Int) := by omega
            have hkn : (k : Int) + 1 ≤ 9223372036854775807 := by omega
            by_cases ho : o'.size ≤ 1000
            · have ho' : (o'.size : Int) ≤ 1000 := by omega
              have hcat : ¬ 9223372036854775807 < o'.size + q.size := by omega
              go_wp2_with fail
              go_roundw
              case rel => exact ⟨k + 1, o' ++ q, by go_num, rfl, by omega, (by show _ = _; rw [ByteArray.data_append, Array.toList_append, hO.out, repL_succ, List.append_assoc]), (by show (o' ++ q).size ≤ 1000 + q.size; rw [ByteArray.size_append]; omega), trivial⟩
              case measure => simp [intOf]; omega
            · have ho' : ¬ (o'.size : Int) ≤ 1000 := by omega
              have HFIN := Lib.hid (step_fin (k := k) HFO.out HTL.out (Nat.le_refl 1) hk (.inr (by rw [← hO.out, ← size_len]; omega)))
              go_wp2_with fail
              go_roundw
              case rel => exact ⟨qr, r, o', rfl, rfl, HQR.out, HRG.out, HLE.out, HQRZ.out, (by rw [hO.out]; exact HFIN.out), (by have := hOZ.out; have := HQB.out; show o'.size ≤ _; omega), HB1.out⟩
              case measure => exact HQRL.out
          · have hkt' : ¬ (k : Int) < (1 : Int) := by omega
            have hkT : k = 1 := by omega
            have HFIN := Lib.hid (step_fin (k := k) HFO.out HTL.out (Nat.le_refl 1) hk (.inl hkT))
            go_wp2_with fail
            go_roundw
            case rel => exact ⟨qr, r, o', rfl, rfl, HQR.out, HRG.out, HLE.out, HQRZ.out, (by rw [hO.out]; exact HFIN.out), (by have := hOZ.out; have := HQB.out; show o'.size ≤ _; omega), HB1.out⟩
            case measure => exact HQRL.out
      | rep i r =>
        have he : s'.toList.isEmpty = false := by rw [ByteArray.toList_eq, hs.out]; rfl
        have hgg := hg.out
        simp only [Tx.good, Bool.and_eq_true] at hgg
        obtain ⟨⟨hia, hig⟩, hrg⟩ := hgg
        have HIG := Lib.hid hig
        have HIA := Lib.hid hia
        have HRG := Lib.hid hrg
        clear hig hia hrg
        go_wp2_with fail
        refine (next_rep s' i r.text _ (by have := hz.out; omega) HIA.out HIG.out hs.out).mono ?_
        rintro e w1 ⟨p, qr, hp, hq, rfl, hb1⟩
        have HB0 := Lib.hid (hb.out.trans (hb1.mono hb.out.size))
        have HP := Lib.hid hp
        have HQR := Lib.hid hq
        have HQRL : Hid (qr.size < s'.size) := by
          show _ < _
          rw [size_len, size_len, hq, hs.out]; simp [Tx.text]; omega
        have HPZ : Hid (p.size ≤ 120) := by
          have h1 := hz.out
          show _ ≤ _
          rw [size_len, hs.out] at h1
          rw [size_len, hp]; simp [Tx.text] at h1; omega
        have HQRZ : Hid (qr.size ≤ 120) := by have := HQRL.out; have := hz.out; show _ ≤ _; omega
        have HLE : Hid (r.text.length ≤ t.text.length) := by have := hle.out; simp only [Tx.text, List.length_cons, List.length_append] at this; show _ ≤ _; omega
        have HIT : Hid (i.text.length + 3 ≤ t.text.length) := by have := hle.out; simp only [Tx.text, List.length_cons, List.length_append] at this; show _ ≤ _; omega
        have HIL : Hid (i.text.length < m) := by have := HIT.out; have := HN.out; show _ < _; omega
        have HTS : Hid (t.text.length ≤ 120) := by
          have := HZ.out
          show _ ≤ _
          rw [size_len, HS.out] at this
          exact this
        clear hb1 hp hq he
        go_wp2_with fail
        refine (HI.out i p _ HIG.out HIL.out HP.out HPZ.out).mono ?_
        rintro e w2 ⟨q, rfl, hT, hqz, hb2⟩
        have HB1 := Lib.hid (HB0.out.trans (hb2.mono HB0.out.size))
        have HTL := Lib.hid hT
        have HQB : Hid (q.size ≤ 1000 * t.text.length) := by have := HIT.out; show _ ≤ _; omega
        have hq1 : q.size ≤ 1000000 := by have := HQB.out; have := HTS.out; omega
        have HFO : Hid (expT n t = o.data.toList ++ (repL n (expT n i) ++ expT n r)) := HIO.out
        clear hb2 hT hqz HIO hI
        go_wp2_with fail
        go_loopw [11, 5] (fun kk oo wr2 => ∃ (k : Nat) (o' : ByteArray), kk = .int .i64 k ∧ oo = .string o' ∧ k ≤ n ∧ Hid (o'.data.toList = o.data.toList ++ repL k q.data.toList) ∧ Hid (o'.size ≤ 1000 + q.size) ∧ wr2 = w2) (fun kk _ _ => n - (intOf kk).toNat)
        case atStart => exact ⟨0, o, rfl, rfl, by omega, (by show _ = _; rw [repL_zero, List.append_nil]), (by show o.size ≤ 1000 + q.size; omega), rfl⟩
        case round =>
          obtain ⟨k, o', rfl, rfl, hk, hO, hOZ, rfl⟩ := hrel
          by_cases hkt : k < n
          · have hkt' : (k : Int) < (n : Int) := by omega
            have hk0 : (0 : Int) ≤ (k : Int) := by omega
            have hkn : (k : Int) + 1 ≤ 9223372036854775807 := by omega
            by_cases ho : o'.size ≤ 1000
            · have ho' : (o'.size : Int) ≤ 1000 := by omega
              have hcat : ¬ 9223372036854775807 < o'.size + q.size := by omega
              go_wp2_with fail
              go_roundw
              case rel => exact ⟨k + 1, o' ++ q, by go_num, rfl, by omega, (by show _ = _; rw [ByteArray.data_append, Array.toList_append, hO.out, repL_succ, List.append_assoc]), (by show (o' ++ q).size ≤ 1000 + q.size; rw [ByteArray.size_append]; omega), trivial⟩
              case measure => simp [intOf]; omega
            · have ho' : ¬ (o'.size : Int) ≤ 1000 := by omega
              have HFIN := Lib.hid (step_fin (k := k) HFO.out HTL.out hn1 hk (.inr (by rw [← hO.out, ← size_len]; omega)))
              go_wp2_with fail
              go_roundw
              case rel => exact ⟨qr, r, o', rfl, rfl, HQR.out, HRG.out, HLE.out, HQRZ.out, (by rw [hO.out]; exact HFIN.out), (by have := hOZ.out; have := HQB.out; show o'.size ≤ _; omega), HB1.out⟩
              case measure => exact HQRL.out
          · have hkt' : ¬ (k : Int) < (n : Int) := by omega
            have hkT : k = n := by omega
            have HFIN := Lib.hid (step_fin (k := k) HFO.out HTL.out hn1 hk (.inl hkT))
            go_wp2_with fail
            go_roundw
            case rel => exact ⟨qr, r, o', rfl, rfl, HQR.out, HRG.out, HLE.out, HQRZ.out, (by rw [hO.out]; exact HFIN.out), (by have := hOZ.out; have := HQB.out; show o'.size ≤ _; omega), HB1.out⟩
            case measure => exact HQRL.out
    · have ho' : ¬ (o.size : Int) ≤ 1000 := by omega
      have HE : Hid (Tells (expT n t) o.data.toList) := by
        have h9 : 1000 < o.data.toList.length := by rw [← size_len]; omega
        refine ⟨fun h => ?_, fun _ => h9⟩
        rcases hI.out with h' | ⟨_, h'⟩
        · rw [h', List.length_append] at h; omega
        · omega
      cases he : s'.toList.isEmpty with
      | true =>
        go_wp2_with fail
        go_ret
        exact ⟨o, rfl, HE.out, hob.out, hb.out⟩
      | false =>
        go_wp2_with fail
        go_ret
        exact ⟨o, rfl, HE.out, hob.out, hb.out⟩
theorem expand_all (n : Nat) (hn1 : 1 ≤ n) (hn2 : n ≤ 9223372036854775807) : ∀ m, XN n m
  | 0 => fun t s w _ h => absurd h (by omega)
  | m + 1 => expandC n m hn1 hn2 (expand_all n hn1 hn2 m)
end Go.Proofs.YtdhpcpmjdffgmaaDoor
