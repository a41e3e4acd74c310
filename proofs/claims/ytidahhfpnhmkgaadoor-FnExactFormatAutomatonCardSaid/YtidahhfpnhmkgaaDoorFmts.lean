/- The texts of lists of costs, the program's and the model's: each returns the same bytes; nothing that was there changes. Conditions: at most 2^20 numbers; the library's table of powers of ten reads as its text lays it. -/
import Derived.Test.YtidahhfpnhmkgaaDoorFmt
import Derived.Test.YtidahhfpnhmkgaaDoorCopy
import Derived.Lib.Join
namespace Go.Proofs.YtidahhfpnhmkgaaDoor
open Go.RowKit
set_option maxHeartbeats 1000000
set_option maxRecDepth 100000
set_option linter.unusedVariables false

/-- The bytes of the text of a list. -/
def costsF (zs : List Int) : List UInt8 := if allV zs = true then Lib.join (zs.map fmtF) [32] else []
theorem costsF_no {zs : List Int} (h : allV zs = false) : costsF zs = [] := by unfold costsF; rw [h]; simp
theorem costsF_ok {zs : List Int} (h : allV zs = true) : costsF zs = Lib.join (zs.map fmtF) [32] := by unfold costsF; rw [if_pos h]

theorem join_snoc {l : List (List UInt8)} (x sep : List UInt8) (h : ¬ l = []) : Lib.join (l ++ [x]) sep = Lib.join l sep ++ sep ++ x := by
  cases l with
  | nil => exact absurd rfl h
  | cons a r =>
    rw [List.cons_append, Lib.join_cons, Lib.join_cons]
    simp [Lib.joinTail]
theorem nd_le (m : Nat) : ∀ k, k < 10 ^ (m + 1) → (Lib.decDigits k).length ≤ m + 1 := by
  induction m with
  | zero => intro k hk; rw [dec_small (by omega)]; simp
  | succ m ih =>
    intro k hk
    by_cases h : 9 < k
    · rw [dec_big h, List.length_append]
      have := ih (k / 10) (by rw [Nat.pow_succ] at hk; omega)
      simp; omega
    · rw [dec_small h]; simp
theorem fmtF_len (a : Int) : (fmtF a).length ≤ 7 := by
  unfold fmtF
  split
  · rename_i hv
    have := vld_t hv
    split
    · simp
    · have := nd_le 6 a.toNat (by omega); omega
  · simp
theorem nd_ne (k : Nat) : ¬ Lib.decDigits k = [] := by
  by_cases h : 9 < k
  · rw [dec_big h]; simp
  · rw [dec_small h]; simp
theorem fmtF_ne {a : Int} (hv : vld a = true) : ¬ fmtF a = [] := by
  unfold fmtF
  rw [if_pos hv]
  split
  · simp
  · exact nd_ne _
theorem join_len (l : List (List UInt8)) (h : ∀ x ∈ l, x.length ≤ 7) : (Lib.join l [32]).length ≤ 8 * l.length := by
  cases l with
  | nil => simp [Lib.join_nil]
  | cons a r =>
    rw [Lib.join_cons, List.length_append]
    have ha := h a (by simp)
    have hr : (Lib.joinTail [32] r).length ≤ 8 * r.length := by
      have : ∀ r : List (List UInt8), (∀ x ∈ r, x.length ≤ 7) → (Lib.joinTail [32] r).length ≤ 8 * r.length := by
        intro r
        induction r with
        | nil => intro _; simp [Lib.joinTail]
        | cons b r ih =>
          intro hh
          have hb := hh b (by simp)
          have := ih (fun x hx => hh x (by simp [hx]))
          simp [Lib.joinTail] at this ⊢
          omega
      exact this r (fun x hx => h x (by simp [hx]))
    simp; omega
theorem costs_len (zs : List Int) : (Lib.join (zs.map fmtF) [32]).length ≤ 8 * zs.length := by
  have := join_len (zs.map fmtF) (by intro x hx; obtain ⟨a, _, rfl⟩ := List.mem_map.1 hx; exact fmtF_len a)
  simpa using this

theorem allV_none {zs : List Int} {k : Nat} {z : Int} (hd : zs.drop k = z :: zs.drop (k + 1)) (hv : vld z = false) : allV zs = false := by
  have hm : z ∈ zs := List.mem_of_mem_drop (i := k) (by rw [hd]; simp)
  cases h : allV zs
  · rfl
  · have := List.all_eq_true.1 h z hm
    rw [hv] at this; cases this
theorem allV_take {zs : List Int} {k : Nat} {z : Int} (h : allV (zs.take k) = true) (hg : zs.take (k + 1) = zs.take k ++ [z]) (hv : vld z = true) : allV (zs.take (k + 1)) = true := by
  rw [hg]; simp [allV] at h ⊢; exact ⟨h, hv⟩
theorem take_next {zs : List Int} {k : Nat} {z : Int} (hk : k < zs.length) (hg : zs.getD k 0 = z) : zs.take (k + 1) = zs.take k ++ [z] := by
  rw [List.take_succ_eq_append_getElem hk]
  rw [List.getD_eq_getElem?_getD, List.getElem?_eq_getElem hk] at hg
  rw [← hg]; rfl

theorem info_str : (Tryd.prog.info? 9).map (fun i => (i.zero, i.size, i.bytes)) = some (some (.string ByteArray.empty), 1, 16) := by kernel_rfl
theorem own_below {w w' : World} {base g n cap : Nat} {t : TypeId} {xs : List Value} (h : w.ownsRow base t 1 (.slice (some ⟨g, 0, none⟩) n cap) n xs) (hb : Below w.heap.size w w') : w'.ownsRow base t 1 (.slice (some ⟨g, 0, none⟩) n cap) n xs :=
  h.kept (row := none) ⟨hb.os, hb.tape, hb.output, hb.size, fun k hk _ => hb.block k hk⟩ (Or.inr (by simp [Value.ownBlock]))
/-- The text of a number as a value. -/
def fb (a : Int) : ByteArray := ⟨(fmtF a).toArray⟩
def fv (a : Int) : Value := .string ⟨(fmtF a).toArray⟩

theorem eqIntS_eq (A A' : Option Addr) (cap cap' B B' : Nat) (zs : List Int) (w : World) (hz : Ints w B A zs) (hy : Ints w B' A' zs) :
    Calls Tryd.prog 26 #[.slice A zs.length cap, .slice A' zs.length cap'] w fun e w' => e = .returned (.bool true) ∧ ∃ m, w' = w.drewN m :=
  (eqIntS_any A A' cap cap' B B' zs zs w hz hy).mono fun e w' ⟨he, hw⟩ => ⟨by rw [he, decide_eq_true rfl], hw⟩
theorem below_drawn {B : Nat} {a w : World} (h : Below B a w) (m : Nat) : Below B a (w.drewN m) := ⟨h.os, h.tape, h.output, h.size, h.block⟩

end Go.Proofs.YtidahhfpnhmkgaaDoor
