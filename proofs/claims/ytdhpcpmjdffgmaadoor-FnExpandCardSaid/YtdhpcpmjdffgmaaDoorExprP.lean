/- Plain mathematics of expressions put together: what two expressions behind each other, and a repeated one, are read as, their expansions and depths. No condition but lengths. -/
import Derived.Test.YtdhpcpmjdffgmaaDoorExpand
import Derived.Test.YtdhpcpmjdffgmaaDoorDepth
import Derived.Test.YtdhpcpmjdffgmaaDoorWordT
namespace Go.Proofs.YtdhpcpmjdffgmaaDoor
open Go.RowKit
set_option linter.unusedVariables false

/-! Two texts behind each other. -/
def Tx.app : Tx → Tx → Tx
  | .nil, s => s
  | .lit b r, s => .lit b (r.app s)
  | .rep i r, s => .rep i (r.app s)
theorem app_text : ∀ (t s : Tx), (t.app s).text = t.text ++ s.text
  | .nil, s => rfl
  | .lit b r, s => by
    show chr b :: (r.app s).text = chr b :: r.text ++ s.text
    rw [app_text r s]; rfl
  | .rep i r, s => by
    show 40 :: (i.text ++ (41 :: 35 :: (r.app s).text)) = 40 :: (i.text ++ (41 :: 35 :: r.text)) ++ s.text
    rw [app_text r s]; simp
theorem app_good : ∀ (t s : Tx), t.good = true → s.good = true → (t.app s).good = true
  | .nil, s, _, hs => hs
  | .lit b r, s, h, hs => app_good r s h hs
  | .rep i r, s, h, hs => by
    simp only [Tx.good, Bool.and_eq_true] at h
    show (i.any && i.good && (r.app s).good) = true
    rw [h.1.1, h.1.2, app_good r s h.2 hs]; rfl
theorem app_any {t s : Tx} (h : t.any = true) : (t.app s).any = true := by
  cases t with
  | nil => cases h
  | lit b r => rfl
  | rep i r => rfl
theorem app_exp (n : Nat) : ∀ (t s : Tx), expT n (t.app s) = expT n t ++ expT n s
  | .nil, s => rfl
  | .lit b r, s => by
    show chr b :: expT n (r.app s) = chr b :: expT n r ++ expT n s
    rw [app_exp n r s]; rfl
  | .rep i r, s => by
    show repL n (expT n i) ++ expT n (r.app s) = repL n (expT n i) ++ expT n r ++ expT n s
    rw [app_exp n r s, List.append_assoc]
theorem node_text {t : Tx} (hg : t.good = true) (ha : t.any = true) (hl : t.text.length ≤ 120) : ∃ y, nodeF t.text = some y ∧ (∀ n, expE n y = expT n t) ∧ depthE y = depthT t := by
  obtain ⟨y, hy⟩ := Tx.ex_none ha hg
  refine ⟨y, by rw [node_parse, parse_text hg ha hl]; exact hy, fun n => by rw [ex_exp n t none y hy]; rfl, ?_⟩
  rw [ex_depth t none y hy]
  have := depthT_pos t
  show max 0 (depthT t) = depthT t
  omega
theorem exp_text {t : Tx} (hg : t.good = true) (ha : t.any = true) (hl : t.text.length ≤ 120) {k : Nat} (hk : 1 ≤ k) (hw : (expT k t).length ≤ 1000) : expR t.text (k : Int) = some (expT k t) := by
  obtain ⟨y, h1, h2, _⟩ := node_text hg ha hl
  unfold expR
  rw [h1, Option.bind_some, expX_yes hk (by rw [h2]; exact hw), h2]
theorem depth_text {t : Tx} (hg : t.good = true) (ha : t.any = true) (hl : t.text.length ≤ 120) : depthR t.text = depthT t := by
  obtain ⟨y, h1, _, h3⟩ := node_text hg ha hl
  unfold depthR
  rw [h1]
  exact h3
/-- What an expansion tells of a text. -/
theorem exp_parts {l : List UInt8} {n : Int} {w : List UInt8} (h : expR l n = some w) : ∃ (t : Tx) (k : Nat), n = (k : Int) ∧ 1 ≤ k ∧ l = t.text ∧ t.good = true ∧ t.any = true ∧ t.text.length ≤ 120 ∧ w = expT k t ∧ w.length ≤ 1000 := by
  unfold expR at h
  cases hn : nodeF l with
  | none => rw [hn] at h; cases h
  | some x =>
    rw [hn, Option.bind_some] at h
    unfold expX at h
    split at h
    · rename_i hh
      have hv : validB l = true := by rw [valid_node, hn]; rfl
      obtain ⟨t, y, hp, e, hg, ha, hy, hx⟩ := valid_parts hv
      obtain ⟨_, _, _, hlen⟩ := parse_spec hp
      rw [hn] at hx
      obtain rfl : x = y := Option.some.inj hx
      have e2 : expE n.toNat x = expT n.toNat t := by rw [ex_exp n.toNat t none x hy]; rfl
      refine ⟨t, n.toNat, by omega, by omega, e, hg, ha, by rw [← e]; exact hlen, ?_, ?_⟩
      · rw [← e2]; exact (Option.some.inj h).symm
      · rw [← Option.some.inj h]; exact hh.2
    · cases h
theorem depthT_le : ∀ t : Tx, depthT t ≤ (t.text.length : Int)
  | .nil => Int.le_refl _
  | .lit b r => by
    have h := depthT_le r
    show depthT r ≤ ((chr b :: r.text).length : Int)
    simp only [List.length_cons]
    omega
  | .rep i r => by
    have h1 := depthT_le i
    have h2 := depthT_le r
    show max (depthT i + 1) (depthT r) ≤ ((40 :: (i.text ++ (41 :: 35 :: r.text))).length : Int)
    simp only [List.length_cons, List.length_append]
    omega
theorem chr_ab (b : Bool) : isAB (chr b) = true := by cases b <;> rfl
theorem repL_all {f : UInt8 → Bool} : ∀ (n : Nat) (l : List UInt8), l.all f = true → (repL n l).all f = true
  | 0, _, _ => rfl
  | n + 1, l, h => by rw [repL_succ, List.all_append, repL_all n l h, h]; rfl
theorem expT_ab (n : Nat) : ∀ t : Tx, (expT n t).all isAB = true
  | .nil => rfl
  | .lit b r => by
    show (chr b :: expT n r).all isAB = true
    rw [List.all_cons, chr_ab, expT_ab n r]; rfl
  | .rep i r => by
    show (repL n (expT n i) ++ expT n r).all isAB = true
    rw [List.all_append, repL_all n _ (expT_ab n i), expT_ab n r]; rfl
theorem expT_pos {n : Nat} (hn : 1 ≤ n) : ∀ t : Tx, t.good = true → t.any = true → 0 < (expT n t).length
  | .nil, _, h => by cases h
  | .lit b r, _, _ => by simp [expT]
  | .rep i r, hg, _ => by
    simp only [Tx.good, Bool.and_eq_true] at hg
    have h := expT_pos hn i hg.1.2 hg.1.1
    show 0 < (repL n (expT n i) ++ expT n r).length
    rw [List.length_append, repL_len]
    have : 0 < n * (expT n i).length := Nat.mul_pos (by omega) h
    omega
theorem expT_flat (n : Nat) : ∀ t : Tx, depthT t ≤ 0 → expT n t = t.text
  | .nil, _ => rfl
  | .lit b r, h => by
    show chr b :: expT n r = chr b :: r.text
    rw [expT_flat n r h]
  | .rep i r, h => by
    have h1 : max (depthT i + 1) (depthT r) ≤ 0 := h
    have := depthT_pos i
    omega
/-- The repeated one. -/
theorem rep_text (t : Tx) : (Tx.rep t .nil).text = 40 :: (t.text ++ [41, 35]) := rfl
theorem rep_exp (n : Nat) (t : Tx) : expT n (.rep t .nil) = repL n (expT n t) := by show repL n (expT n t) ++ [] = _; rw [List.append_nil]
theorem rep_depth (t : Tx) : depthT (.rep t .nil) = depthT t + 1 := by
  show max (depthT t + 1) 0 = _
  have := depthT_pos t
  omega
/-! As bytes. -/
def bw (l : List UInt8) : ByteArray := ⟨l.toArray⟩
theorem bw_app (a b : List UInt8) : bw a ++ bw b = bw (a ++ b) := by
  apply ByteArray.ext
  show (bw a ++ bw b).data = (a ++ b).toArray
  rw [ByteArray.data_append]
  simp [bw]
theorem bw_size (l : List UInt8) : (bw l).size = l.length := by simp [bw, ByteArray.size]
/-- All that the law of expansions asks for. -/
structure ExpLaw (s : ByteArray) (n : Int) (w : List UInt8) : Prop where
  word : wordOk (bw w) = true
  some_ : 0 < w.length
  few : w.length ≤ 1000
  flat : depthR s.data.toList = 0 → bw w = s
  deep : 0 ≤ depthR s.data.toList
  shallow : depthR s.data.toList ≤ 120
  join : ∀ (f : ByteArray) (v : List UInt8), expR f.data.toList n = some v → s.size + f.size ≤ 120 → w.length + v.length ≤ 1000 → expR (s ++ f).data.toList n = some (w ++ v)
  rep : s.size + 3 ≤ 120 → n.toNat * w.length ≤ 1000 → expR (repS s).data.toList n = some (repL n.toNat w) ∧ depthR (repS s).data.toList = depthR s.data.toList + 1
  valid : validB s.data.toList = true
  num : 1 ≤ n
theorem exp_law {s : ByteArray} {n : Int} {w : List UInt8} (h : expR s.data.toList n = some w) : ExpLaw s n w := by
  obtain ⟨t, k, rfl, hk, e, hg, ha, hl, rfl, hw⟩ := exp_parts h
  have hd : depthR s.data.toList = depthT t := by rw [e]; exact depth_text hg ha hl
  have hv : validB s.data.toList = true := by unfold validB; rw [e, parse_text hg ha hl]; rfl
  have hsz : s.size = t.text.length := by rw [← e]; simp
  refine ⟨?_, expT_pos hk t hg ha, hw, ?_, by rw [hd]; exact depthT_pos t, by rw [hd]; have := depthT_le t; omega, ?_, ?_, hv, by omega⟩
  · unfold wordOk
    rw [bw_size, Bool.and_eq_true, decide_eq_true_eq]
    exact ⟨hw, by show (expT k t).toArray.toList.all isAB = true; rw [List.toList_toArray]; exact expT_ab k t⟩
  · intro h0
    apply Go.WideShapes.bytes_inj
    show (expT k t).toArray.toList = _
    rw [List.toList_toArray, expT_flat k t (by omega), e]
  · intro f v hf hlen hwv
    obtain ⟨t2, k2, hk2, _, e2, hg2, ha2, hl2, rfl, _⟩ := exp_parts hf
    obtain rfl : k = k2 := by omega
    have e3 : (s ++ f).data.toList = (t.app t2).text := by rw [ByteArray.data_append, Array.toList_append, e, e2, app_text]
    have hfs : f.size = t2.text.length := by rw [← e2]; simp
    rw [e3, exp_text (app_good t t2 hg hg2) (app_any ha) (by rw [app_text, List.length_append]; omega) hk (by rw [app_exp, List.length_append]; exact hwv), app_exp]
  · intro h3 hr
    rw [Int.toNat_natCast] at hr ⊢
    have e3 : (repS s).data.toList = (Tx.rep t .nil).text := by
      rw [← repS_yes hv h3, rep_text, ← e, ByteArray.data_append, ByteArray.data_append, Array.toList_append, Array.toList_append]
      rfl
    have hg3 : (Tx.rep t .nil).good = true := by simp [Tx.good, ha, hg]
    have hl3 : (Tx.rep t .nil).text.length ≤ 120 := by rw [rep_text]; simp; omega
    rw [e3, hd, depth_text hg3 rfl hl3, rep_depth, exp_text hg3 rfl hl3 hk (by rw [rep_exp, repL_len]; exact hr), rep_exp]
    exact ⟨rfl, rfl⟩
end Go.Proofs.YtdhpcpmjdffgmaaDoor
