/- The reading of a list of costs, the program's and the model's: each returns the same numbers, in new memory; nothing that was there changes. Conditions: at most 2^20 bytes; the library's limit of short texts reads as some number. -/
import Derived.Test.YtmdddjiegjcekaaDoorCut
import Derived.Test.YtmdddjiegjcekaaDoorParseCost
import Derived.Test.YtmdddjiegjcekaaDoorShelf
import Derived.Test.YtmdddjiegjcekaaDoorOpen
import Derived.Test.YtmdddjiegjcekaaDoorOwn
namespace Go.Proofs.YtmdddjiegjcekaaDoor
open Go.RowKit
set_option maxHeartbeats 1000000
set_option linter.unusedVariables false

def pF : List (List UInt8) → Option (List Int)
  | [] => some []
  | p :: ps => match readF p with
    | none => none
    | some v => (pF ps).map (v :: ·)
theorem pF_bad {p : List UInt8} (ps : List (List UInt8)) (h : readF p = none) : pF (p :: ps) = none := by simp [pF, h]
theorem pF_good {p : List UInt8} {v : Int} (ps : List (List UInt8)) (h : readF p = some v) : pF (p :: ps) = (pF ps).map (v :: ·) := by simp [pF, h]
/-- What the text of a list of costs reads as. -/
def parsesF (l : List UInt8) : Option (List Int) := if l = [] then some [] else pF (cutL 32 l)
theorem parsesF_nil : parsesF [] = some [] := rfl
theorem parsesF_ne {l : List UInt8} (h : ¬ l = []) : parsesF l = pF (cutL 32 l) := by unfold parsesF; rw [if_neg h]

theorem piece_len (c : UInt8) : ∀ (l : List UInt8), ∀ p ∈ cutL c l, p.length ≤ l.length
  | [], p, hp => by simp [cutL] at hp; subst hp; simp
  | b :: l, p, hp => by
    have ih := piece_len c l
    by_cases h : b = c
    · rw [cut_hit l h] at hp
      rcases List.mem_cons.1 hp with rfl | hp
      · simp
      · have := ih p hp; simp; omega
    · rw [cut_miss l h] at hp
      cases hc : cutL c l with
      | nil => exact absurd hc (cutL_ne c l)
      | cons q qs =>
        rw [hc] at hp ih
        simp only [headOn] at hp
        rcases List.mem_cons.1 hp with rfl | hp
        · have := ih q (by simp); simp; omega
        · have := ih p (by simp [hp]); simp; omega
theorem pieces_few (c : UInt8) : ∀ (l : List UInt8), (cutL c l).length ≤ l.length + 1
  | [] => by simp [cutL]
  | b :: l => by
    have ih := pieces_few c l
    by_cases h : b = c
    · rw [cut_hit l h]; simp; omega
    · rw [cut_miss l h]
      cases hc : cutL c l with
      | nil => simp [headOn]
      | cons q qs => rw [hc] at ih; simp [headOn] at ih ⊢; omega
theorem pF_len : ∀ (ps : List (List UInt8)) (vs : List Int), pF ps = some vs → vs.length = ps.length
  | [], vs, h => by simp [pF] at h; subst h; rfl
  | p :: ps, vs, h => by
    cases hr : readF p with
    | none => rw [pF_bad ps hr] at h; cases h
    | some v =>
      rw [pF_good ps hr] at h
      cases hp : pF ps with
      | none => rw [hp] at h; cases h
      | some us =>
        rw [hp] at h
        simp at h
        subst h
        have := pF_len ps us hp
        simp; omega

/-- What a reading of a list leaves: its numbers (none where there are none such) in a row of the call's own, and whether there are such. -/
def PEnd (r : Option (List Int)) (w : World) (e : Ending) (w' : World) : Prop :=
  ∃ x, e = .returned (.tuple #[x, .bool r.isSome]) ∧ w'.ownsRow w.heap.size 3 1 x (r.getD []).length ((r.getD []).map (Value.int .i64)) ∧ Below w.heap.size w w' ∧ (r.getD []).length ≤ 1048577
theorem PEnd.bad {r : Option (List Int)} {w w' : World} {x : Value} (hr : r = none) (ho : w'.ownsRow w.heap.size 3 1 x 0 []) (hb : Below w.heap.size w w') : PEnd r w (.returned (.tuple #[x, .bool false])) w' := by
  subst hr; exact ⟨x, rfl, ho, hb, Nat.zero_le _⟩
theorem PEnd.good {r : Option (List Int)} {w w' : World} {x : Value} {vs : List Int} (hr : r = some vs) (ho : w'.ownsRow w.heap.size 3 1 x vs.length (vs.map (Value.int .i64))) (hb : Below w.heap.size w w') (hl : vs.length ≤ 1048577) : PEnd r w (.returned (.tuple #[x, .bool true])) w' := by
  subst hr; exact ⟨x, rfl, ho, hb, hl⟩

/-- The library's limit reads as some number. -/
def MaxC (w : World) : Prop := ∃ m : Int, w.cell? ⟨0, 0, none⟩ = some (.int .i64 m)
theorem MaxC.lt {w : World} (h : MaxC w) : 0 < w.heap.size := by obtain ⟨m, hm⟩ := h; exact lt_of_cell? hm
theorem MaxC.below {w w' : World} {B : Nat} (h : MaxC w) (hb : Below B w w') (hB : 0 < B) : MaxC w' := by
  obtain ⟨m, hm⟩ := h; exact ⟨m, (hb.cell (p := ⟨0, 0, none⟩) hB).trans hm⟩
theorem maxC_of_shaped {w : World} (h : w.ShapedOpen Tryd.prog) : MaxC w := Tryd.laysM146.s1_3 w h

/-- A row of strings of the call's own. -/
theorem own_strs {w : World} {base : Nat} {t : TypeId} {x : Value} {ps : List ByteArray} (h : w.ownsRow base t 1 x ps.length (ps.map Value.string)) (hne : 0 < ps.length) :
    ∃ g cap cur, x = .slice (some ⟨g, 0, none⟩) ps.length cap ∧ g < w.heap.size ∧ w.heap[g]? = some (.cells cur t (0, 0)) ∧ ∀ k (hk : k < ps.length), w.cell? ⟨g, k, none⟩ = some (.string ps[k]) := by
  rcases h.2 with ⟨_, hx⟩ | ⟨g, cap, cur, hv, hb, hg, hnc, hcm, hcs, htake⟩
  · have : ps = [] := by simpa using hx
    subst this; simp at hne
  · subst hv
    refine ⟨g, cap, cur, rfl, (h.lt g rfl).2, hg, fun k hk => ?_⟩
    rw [h.cellAt k (by omega), List.getElem?_map, List.getElem?_eq_getElem hk]; rfl

/-- The piece at k. -/
theorem piece_at {c : UInt8} {l : List UInt8} {ps : List ByteArray} (h : ps.map (·.data.toList) = cutL c l) {k : Nat} (hk : k < ps.length) :
    (cutL c l).drop k = ps[k].data.toList :: (cutL c l).drop (k + 1) ∧ ps[k].size ≤ l.length := by
  have hl : (cutL c l).length = ps.length := by rw [← h]; simp
  have he : (cutL c l)[k]'(by omega) = ps[k].data.toList := by simp [← h]
  refine ⟨by rw [List.drop_eq_getElem_cons (by omega), he], ?_⟩
  have := piece_len c l ((cutL c l)[k]'(by omega)) (List.getElem_mem _)
  rw [he] at this
  simpa using this
theorem pF_step {Q : List (List UInt8)} {vs : List Int} {p : List UInt8} {v : Int} {k : Nat} {r : Option (List Int)} (h : r = (pF (Q.drop k)).map (vs ++ ·)) (hd : Q.drop k = p :: Q.drop (k + 1)) (hp : readF p = some v) : r = (pF (Q.drop (k + 1))).map ((vs ++ [v]) ++ ·) := by
  rw [h, hd, pF_good _ hp, Option.map_map]
  congr 1
  funext u
  simp
theorem pF_stop {Q : List (List UInt8)} {vs : List Int} {p : List UInt8} {k : Nat} {r : Option (List Int)} (h : r = (pF (Q.drop k)).map (vs ++ ·)) (hd : Q.drop k = p :: Q.drop (k + 1)) (hp : readF p = none) : r = none := by
  rw [h, hd, pF_bad _ hp]; rfl
theorem pF_done {Q : List (List UInt8)} {vs : List Int} {k : Nat} {r : Option (List Int)} (h : r = (pF (Q.drop k)).map (vs ++ ·)) (hk : Q.length ≤ k) : r = some vs := by
  rw [h, List.drop_of_length_le hk]; simp [pF]

theorem split_pieces (s : ByteArray) : (Lib.splitB ⟨#[32]⟩ 0 (Lib.countB s ⟨#[32]⟩) s).map (·.data.toList) = cutL 32 s.data.toList := by
  rw [Lib.splitB_data]
  exact split_cut 32 s.data.toList
theorem set_take {cs : List Value} {vs : List Int} {k : Nat} {v : Int} (h : cs.take k = vs.map (Value.int .i64)) (hk : k < cs.length) : (cs.set k (.int .i64 v)).take (k + 1) = (vs ++ [v]).map (Value.int .i64) := by
  rw [take_set_snoc _ _ _ hk, h]; simp

end Go.Proofs.YtmdddjiegjcekaaDoor
