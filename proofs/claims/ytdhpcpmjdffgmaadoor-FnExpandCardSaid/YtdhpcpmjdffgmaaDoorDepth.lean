/- How many repeated parts of an expression lie within each other, the program's and the model's; nothing that was there changes. No condition. -/
import Derived.Test.YtdhpcpmjdffgmaaDoorOfW
import Derived.Test.YtdhpcpmjdffgmaaDoorExValid
import Derived.Test.YtdhpcpmjdffgmaaDoorMats
import Derived.Laws.EntriesVeiled
namespace Go.Proofs.YtdhpcpmjdffgmaaDoor
open Go.RowKit
set_option maxHeartbeats 2000000
set_option maxRecDepth 100000
set_option linter.unusedVariables false

def accS : Option Ex → Nat
  | none => 0
  | some x => sizeE x
theorem ex_size : ∀ (t : Tx) (acc : Option Ex) (y : Ex), t.ex acc = some y → sizeE y = accS acc + t.text.length
  | .nil, acc, y, h => by
    have : acc = some y := h
    subst this
    simp [accS, Tx.text]
  | .lit b r, acc, y, h => by
    have := ex_size r _ y h
    rw [this]
    cases acc <;> simp only [addE, accS, sizeE, Tx.text, List.length_cons] <;> omega
  | .rep i r, acc, y, h => by
    simp only [Tx.ex] at h
    cases hi : i.ex none with
    | none => rw [hi] at h; cases h
    | some x =>
      rw [hi] at h
      have h1 := ex_size i none x hi
      have h2 := ex_size r _ y h
      rw [h2]
      cases acc <;> simp only [addE, accS, sizeE, Tx.text, List.length_cons, List.length_append] at h1 ⊢ <;> omega
theorem node_size {l : List UInt8} {x : Ex} (h : nodeF l = some x) : sizeE x = l.length ∧ l.length ≤ 120 := by
  rw [node_parse] at h
  cases hp : parseT l with
  | none => rw [hp] at h; cases h
  | some t =>
    rw [hp] at h
    obtain ⟨e, _, _, e4⟩ := parse_spec hp
    have := ex_size t none x h
    rw [this, e, accS, Nat.zero_add]
    exact ⟨rfl, by rw [← e]; exact e4⟩
def depthT : Tx → Int
  | .nil => 0
  | .lit _ r => depthT r
  | .rep i r => max (depthT i + 1) (depthT r)
def accD : Option Ex → Int
  | none => 0
  | some x => depthE x
theorem depthT_pos : ∀ t, 0 ≤ depthT t
  | .nil => Int.le_refl _
  | .lit _ r => depthT_pos r
  | .rep i r => by
    have := depthT_pos r
    simp only [depthT]; omega
theorem ex_depth : ∀ (t : Tx) (acc : Option Ex) (y : Ex), t.ex acc = some y → depthE y = max (accD acc) (depthT t)
  | .nil, acc, y, h => by
    have : acc = some y := h
    subst this
    have := (depth_le y).1
    simp only [accD, depthT]; omega
  | .lit b r, acc, y, h => by
    have h1 := ex_depth r _ y h
    have h2 := depthT_pos r
    rw [h1]
    cases acc with
    | none => simp only [addE, accD, depthE, depthT]
    | some x =>
      have := (depth_le x).1
      simp only [addE, accD, depthE, depthT]; omega
  | .rep i r, acc, y, h => by
    simp only [Tx.ex] at h
    cases hi : i.ex none with
    | none => rw [hi] at h; cases h
    | some x =>
      rw [hi] at h
      have h1 := ex_depth i none x hi
      have h2 := ex_depth r _ y h
      have h3 := depthT_pos i
      have h4 := depthT_pos r
      rw [h2]
      cases acc with
      | none => simp only [addE, accD, depthE, depthT] at h1 ⊢; omega
      | some z => simp only [addE, accD, depthE, depthT] at h1 ⊢; omega
/-- The model's way: depth and the greatest one, byte by byte. -/
def dstep (p : Int × Int) (c : UInt8) : Int × Int := if c = 40 then (p.1 + 1, max p.2 (p.1 + 1)) else if c = 41 then (p.1 - 1, p.2) else p
theorem dfold : ∀ (t : Tx) (d m : Int), d ≤ m → t.text.foldl dstep (d, m) = (d, max m (d + depthT t))
  | .nil, d, m, h => by
    simp only [Tx.text, List.foldl_nil, depthT, Int.add_zero]
    rw [Int.max_eq_left h]
  | .lit b r, d, m, h => by
    have e : dstep (d, m) (chr b) = (d, m) := by cases b <;> rfl
    simp only [Tx.text, List.foldl_cons, e, depthT]
    exact dfold r d m h
  | .rep i r, d, m, h => by
    have e1 : dstep (d, m) 40 = (d + 1, max m (d + 1)) := rfl
    simp only [Tx.text, List.foldl_cons, List.foldl_append, e1, depthT]
    rw [dfold i _ _ (by omega)]
    have e2 : ∀ a b : Int, dstep (a, b) 41 = (a - 1, b) := fun _ _ => rfl
    have e3 : ∀ a b : Int, dstep (a, b) 35 = (a, b) := fun _ _ => rfl
    rw [e2, e3]
    have e4 : d + 1 - 1 = d := by omega
    have h3 := depthT_pos i
    have h4 := depthT_pos r
    rw [e4, dfold r _ _ (by omega)]
    congr 1
    omega
def depthR (l : List UInt8) : Int := match nodeF l with
  | some x => depthE x
  | none => -1
theorem depthR_fold {l : List UInt8} (h : validB l = true) : depthR l = (l.foldl dstep (0, 0)).2 := by
  unfold validB at h
  cases hp : parseT l with
  | none => rw [hp] at h; cases h
  | some t =>
    obtain ⟨e, hg, hs, _⟩ := parse_spec hp
    obtain ⟨y, hy⟩ := Tx.ex_none hs hg
    have hn : nodeF l = some y := by rw [node_parse, hp]; exact hy
    unfold depthR
    rw [hn]
    simp only
    rw [ex_depth t none y hy, e, dfold t 0 0 (Int.le_refl _)]
    simp [accD]
theorem depthR_no {l : List UInt8} (h : validB l = false) : depthR l = -1 := by
  rw [valid_node] at h
  unfold depthR
  cases hn : nodeF l with
  | none => rfl
  | some x => rw [hn] at h; cases h
theorem depths_any (w : World) :
    Calls Tryd.prog 21 #[] w fun e w' => e = .returned meaningD ∧ Below w.heap.size w w' := by
  unfold meaningD
  go_enter Tryd.func21, Tryd.ntmps21
  go_wp2_with fail
  refine bodyPost_ret (results_1 rfl (Gives.row (g := w.heap.size) rfl (Blk.new _ _ _) Tryd.underlying47 rfl (by kernel_rfl))) rfl ?_
  exact ⟨rfl, (Below.refl _ _).alloc (Nat.le_refl _) _⟩
theorem ret_int_ {x y : Int} (h : x = y) : Ending.returned (.int .i64 x) = .returned (.int .i64 y) := by rw [h]
theorem iDepth_is (s : ByteArray) (w : World) :
    Calls Tryd.prog 9 #[.string s] w fun e w' => e = .returned (.int .i64 (depthR s.data.toList)) ∧ Below w.heap.size w w' := by
  cases hn : nodeF s.data.toList with
  | none =>
    have HN := Lib.hid hn
    have HR : Hid (depthR s.data.toList = -1) := by show _ = _; unfold depthR; rw [hn]
    clear hn
    go_enter Tryd.func9, Tryd.ntmps9
    go_wp2_with fail
    refine (nodeOf_no s _ HN.out).mono ?_
    rintro e w' ⟨rfl, hb⟩
    go_wp2_with fail
    go_ret
    exact ⟨ret_int_ HR.out.symm, hb⟩
  | some x =>
    have HN := Lib.hid hn
    have HR : Hid (depthR s.data.toList = depthE x) := by show _ = _; unfold depthR; rw [hn]
    have HZ := Lib.hid (node_size hn)
    clear hn
    go_enter Tryd.func9, Tryd.ntmps9
    go_wp2_with fail
    refine (nodeOf_yes s _ x HN.out).mono ?_
    rintro e w1 ⟨rfl, hb⟩
    have HB := Lib.hid hb
    clear hb
    obtain ⟨t0, v0, hx0⟩ := exV_iface x
    rw [hx0]
    go_wp2_with fail
    refine (depths_any _).mono ?_
    rintro e w2 ⟨rfl, hb2⟩
    have HB2 := Lib.hid (HB.out.trans (hb2.mono HB.out.size))
    clear hb2
    go_wp2_with fail
    have hc := ofD_all x (by have := HZ.out; omega) w2
    rw [hx0] at hc
    refine hc.mono ?_
    rintro e w3 ⟨rfl, hb3⟩
    have HB3 := Lib.hid (HB2.out.trans (hb3.mono HB2.out.size))
    clear hb3 hc
    go_wp2_with fail
    go_ret
    exact ⟨ret_int_ HR.out.symm, HB3.out⟩
theorem sDepth_is (s : ByteArray) (w : World) (hs : s.size ≤ 1048576) :
    Calls Tryd.prog 10 #[.string s] w fun e w' => e = .returned (.int .i64 (depthR s.data.toList)) ∧ w' = w := by
  cases hv : validB s.data.toList with
  | false =>
    have HV := Lib.hid hv
    have HR := Lib.hid (depthR_no hv)
    clear hv
    go_enter Tryd.func10, Tryd.ntmps10
    go_wp2_with fail
    refine (sValid_is s false _ hs HV.out).mono ?_
    rintro e w' ⟨rfl, rfl⟩
    go_wp2_with fail
    go_ret
    exact ⟨ret_int_ HR.out.symm, rfl⟩
  | true =>
    have HV := Lib.hid hv
    have HR := Lib.hid (depthR_fold hv)
    clear hv
    go_enter Tryd.func10, Tryd.ntmps10
    go_wp2_with fail
    refine (sValid_is s true _ hs HV.out).mono ?_
    rintro e w' ⟨rfl, rfl⟩
    go_wp2_with fail
    go_loopw [11, 3, 4] (fun i d m wr => ∃ (k : Nat) (a b : Int), k ≤ s.size ∧ i = .int .i64 k ∧ d = .int .i64 a ∧ m = .int .i64 b ∧ Hid ((s.data.toList.foldl dstep (0, 0)) = ((s.data.toList.drop k).foldl dstep (a, b))) ∧ -(k : Int) ≤ a ∧ a ≤ k ∧ 0 ≤ b ∧ b ≤ k ∧ wr = w') (fun i _ _ _ => s.size - (intOf i).toNat)
    case atStart => exact ⟨0, 0, 0, by omega, rfl, rfl, rfl, rfl, by omega, by omega, by omega, by omega, rfl⟩
    case round =>
      obtain ⟨k, a, b, hk, rfl, rfl, rfl, hF, a0, a1, b0, b1, rfl⟩ := hrel
      by_cases hlt : k < s.size
      · have hlt' : (k : Int) < (s.size : Int) := by omega
        have hk0' : (0 : Int) ≤ (k : Int) := by omega
        have hD := Lib.hid (drop_at s k hlt)
        obtain ⟨c, hc⟩ : ∃ c, c = s[k]'hlt := ⟨_, rfl⟩
        have HC := Lib.hid hc
        by_cases h1 : c = 40
        · have e1 : (((s[k]'hlt).toNat : Int) == 40) = true := be_t (d := 40) (by rw [← hc]; exact h1)
          have HN : Hid (s.data.toList.foldl dstep (0, 0) = (s.data.toList.drop (k + 1)).foldl dstep (a + 1, max b (a + 1))) := by
            show _ = _
            rw [hF.out, hD.out, ← HC.out, h1]; rfl
          clear hF hc
          have a2 : -1048577 ≤ a + 1 := by omega
          have a3 : a + 1 ≤ 1048577 := by omega
          by_cases hm : b < a + 1
          · have em : max b (a + 1) = a + 1 := by omega
            rw [em] at HN
            go_wp2_with fail
            go_roundw
            case rel => exact ⟨k + 1, a + 1, a + 1, by omega, by go_num, rfl, rfl, HN.out, by omega, by omega, by omega, by omega, trivial⟩
            case measure => simp [intOf]; omega
          · have em : max b (a + 1) = b := by omega
            rw [em] at HN
            go_wp2_with fail
            go_roundw
            case rel => exact ⟨k + 1, a + 1, b, by omega, by go_num, rfl, rfl, HN.out, by omega, by omega, by omega, by omega, trivial⟩
            case measure => simp [intOf]; omega
        · have e1 : (((s[k]'hlt).toNat : Int) == 40) = false := be_f (d := 40) (by rw [← hc]; exact h1)
          by_cases h2 : c = 41
          · have e2 : (((s[k]'hlt).toNat : Int) == 41) = true := be_t (d := 41) (by rw [← hc]; exact h2)
            have HN : Hid (s.data.toList.foldl dstep (0, 0) = (s.data.toList.drop (k + 1)).foldl dstep (a - 1, b)) := by
              show _ = _
              rw [hF.out, hD.out, ← HC.out, h2]; rfl
            clear hF hc
            have a2 : -1048578 ≤ a - 1 := by omega
            have a3 : a - 1 ≤ 1048577 := by omega
            go_wp2_with fail
            go_roundw
            case rel => exact ⟨k + 1, a - 1, b, by omega, by go_num, rfl, rfl, HN.out, by omega, by omega, by omega, by omega, trivial⟩
            case measure => simp [intOf]; omega
          · have e2 : (((s[k]'hlt).toNat : Int) == 41) = false := be_f (d := 41) (by rw [← hc]; exact h2)
            have HN : Hid (s.data.toList.foldl dstep (0, 0) = (s.data.toList.drop (k + 1)).foldl dstep (a, b)) := by
              show _ = _
              rw [hF.out, hD.out, ← HC.out, List.foldl_cons]
              unfold dstep
              rw [if_neg h1, if_neg h2]
            clear hF hc
            go_wp2_with fail
            go_roundw
            case rel => exact ⟨k + 1, a, b, by omega, by go_num, rfl, rfl, HN.out, by omega, by omega, by omega, by omega, trivial⟩
            case measure => simp [intOf]; omega
      · have hlt' : ¬ (k : Int) < (s.size : Int) := by omega
        have HE : Hid (depthR s.data.toList = b) := by
          show _ = _
          rw [HR.out, hF.out, List.drop_of_length_le (by rw [← size_len]; omega)]; rfl
        clear hF
        go_wp2_with fail
        go_ret
        exact ⟨ret_int_ HE.out.symm, rfl⟩
end Go.Proofs.YtdhpcpmjdffgmaaDoor
