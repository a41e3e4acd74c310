/- The reading of a list of costs, the program's and the model's: each returns the same numbers, in new memory; nothing that was there changes. Conditions: at most 2^20 bytes; the library's limit of short texts reads as some number. -/
import Derived.Test.YtonnolpjfjbjpaaDoorCut
import Derived.Test.YtonnolpjfjbjpaaDoorParseCost
import Derived.Test.YtonnolpjfjbjpaaDoorShelf
import Derived.Test.YtonnolpjfjbjpaaDoorOpen
import Derived.Test.YtonnolpjfjbjpaaDoorOwn
namespace Go.Proofs.YtonnolpjfjbjpaaDoor
open Go.RowKit
set_option maxHeartbeats 1000000
set_option linter.unusedVariables false

def pF : List (List UInt8) → Option (List Int)
  | [] => some []
  | p :: ps => match readF p with
    | none => none
    | some v => (pF ps).map (v :: ·)
theorem pF_bad {p : List UInt8} (ps : List (List UInt8)) (h : readF p = none) : pF (p :: ps) = none := by simp [pF, h]
theorem pF_good {p : List UInt8} {v : Int} (ps : List (List UInt8)) (h : readF p = some v) : pF (p :: ps) = (pF ps).map (v :: ·) := by simp [pF, h]
/-- What the text of a list of costs reads as. -/
def parsesF (l : List UInt8) : Option (List Int) := if l = [] then some [] else pF (cutL 32 l)
theorem parsesF_nil : parsesF [] = some [] := rfl
theorem parsesF_ne {l : List UInt8} (h : ¬ l = []) : parsesF l = pF (cutL 32 l) := by unfold parsesF; rw [if_neg h]

theorem piece_len (c : UInt8) : ∀ (l : List UInt8), ∀ p ∈ cutL c l, p.length ≤ l.length
  | [], p, hp => by simp [cutL] at hp; subst hp; simp
  | b :: l, p, hp => by
    have ih := piece_len c l
    by_cases h : b = c
    · rw [cut_hit l h] at hp
      rcases List.mem_cons.1 hp with rfl | hp
      · simp
      · have := ih p hp; simp; omega
    · rw [cut_miss l h] at hp
      cases hc : cutL c l with
      | nil => exact absurd hc (cutL_ne c l)
      | cons q qs =>
        rw [hc] at hp ih
        simp only [headOn] at hp
        rcases List.mem_cons.1 hp with rfl | hp
        · have := ih q (by simp); simp; omega
        · have := ih p (by simp [hp]); simp; omega
theorem pieces_few (c : UInt8) : ∀ (l : List UInt8), (cutL c l).length ≤ l.length + 1
  | [] => by simp [cutL]
  | b :: l => by
    have ih := pieces_few c l
    by_cases h : b = c
    · rw [cut_hit l h]; simp; omega
    · rw [cut_miss l h]
      cases hc : cutL c l with
      | nil => simp [headOn]
      | cons q qs => rw [hc] at ih; simp [headOn] at ih ⊢; omega
theorem pF_len : ∀ (ps : List (List UInt8)) (vs : List Int), pF ps = some vs → vs.length = ps.length
  | [], vs, h => by simp [pF] at h; subst h; rfl
  | p :: ps, vs, h => by
    cases hr : readF p with
    | none => rw [pF_bad ps hr] at h; cases h
    | some v =>
      rw [pF_good ps hr] at h
      cases hp : pF ps with
      | none => rw [hp] at h; cases h
      | some us =>
        rw [hp] at h
        simp at h
        subst h
        have := pF_len ps us hp
        simp; omega

/-- What a reading of a list leaves: its numbers (none where there are none such) in a row of the call's own, and whether there are such. -/
def PEnd (r : Option (List Int)) (w : World) (e : Ending) (w' : World) : Prop :=
  ∃ x, e = .returned (.tuple #[x, .bool r.isSome]) ∧ w'.ownsRow w.heap.size 3 1 x (r.getD []).length ((r.getD []).map (Value.int .i64)) ∧ Below w.heap.size w w' ∧ (r.getD []).length ≤ 1048577
theorem PEnd.bad {r : Option (List Int)} {w w' : World} {x : Value} (hr : r = none) (ho : w'.ownsRow w.heap.size 3 1 x 0 []) (hb : Below w.heap.size w w') : PEnd r w (.returned (.tuple #[x, .bool false])) w' := by
  subst hr; exact ⟨x, rfl, ho, hb, Nat.zero_le _⟩
theorem PEnd.good {r : Option (List Int)} {w w' : World} {x : Value} {vs : List Int} (hr : r = some vs) (ho : w'.ownsRow w.heap.size 3 1 x vs.length (vs.map (Value.int .i64))) (hb : Below w.heap.size w w') (hl : vs.length ≤ 1048577) : PEnd r w (.returned (.tuple #[x, .bool true])) w' := by
  subst hr; exact ⟨x, rfl, ho, hb, hl⟩

/-- The library's limit reads as some number. -/
def MaxC (w : World) : Prop := ∃ m : Int, w.cell? ⟨0, 0, none⟩ = some (.int .i64 m)
theorem MaxC.lt {w : World} (h : MaxC w) : 0 < w.heap.size := by obtain ⟨m, hm⟩ := h; exact lt_of_cell? hm
theorem MaxC.below {w w' : World} {B : Nat} (h : MaxC w) (hb : Below B w w') (hB : 0 < B) : MaxC w' := by
  obtain ⟨m, hm⟩ := h; exact ⟨m, (hb.cell (p := ⟨0, 0, none⟩) hB).trans hm⟩
theorem maxC_of_shaped {w : World} (h : w.ShapedOpen Tryd.prog) : MaxC w := Tryd.laysM146.s1_3 w h

/-- A row of strings of the call's own. -/
theorem own_strs {w : World} {base : Nat} {t : TypeId} {x : Value} {ps : List ByteArray} (h : w.ownsRow base t 1 x ps.length (ps.map Value.string)) (hne : 0 < ps.length) :
    ∃ g cap cur, x = .slice (some ⟨g, 0, none⟩) ps.length cap ∧ g < w.heap.size ∧ w.heap[g]? = some (.cells cur t (0, 0)) ∧ ∀ k (hk : k < ps.length), w.cell? ⟨g, k, none⟩ = some (.string ps[k]) := by
  rcases h.2 with ⟨_, hx⟩ | ⟨g, cap, cur, hv, hb, hg, hnc, hcm, hcs, htake⟩
  · have : ps = [] := by simpa using hx
    subst this; simp at hne
  · subst hv
    refine ⟨g, cap, cur, rfl, (h.lt g rfl).2, hg, fun k hk => ?_⟩
    rw [h.cellAt k (by omega), List.getElem?_map, List.getElem?_eq_getElem hk]; rfl

/-- The piece at k. -/
theorem piece_at {c : UInt8} {l : List UInt8} {ps : List ByteArray} (h : ps.map (·.data.toList) = cutL c l) {k : Nat} (hk : k < ps.length) :
    (cutL c l).drop k = ps[k].data.toList :: (cutL c l).drop (k + 1) ∧ ps[k].size ≤ l.length := by
  have hl : (cutL c l).length = ps.length := by rw [← h]; simp
  have he : (cutL c l)[k]'(by omega) = ps[k].data.toList := by simp [← h]
  refine ⟨by rw [List.drop_eq_getElem_cons (by omega), he], ?_⟩
  have := piece_len c l ((cutL c l)[k]'(by omega)) (List.getElem_mem _)
  rw [he] at this
  simpa using this
theorem pF_step {Q : List (List UInt8)} {vs : List Int} {p : List UInt8} {v : Int} {k : Nat} {r : Option (List Int)} (h : r = (pF (Q.drop k)).map (vs ++ ·)) (hd : Q.drop k = p :: Q.drop (k + 1)) (hp : readF p = some v) : r = (pF (Q.drop (k + 1))).map ((vs ++ [v]) ++ ·) := by
  rw [h, hd, pF_good _ hp, Option.map_map]
  congr 1
  funext u
  simp
theorem pF_stop {Q : List (List UInt8)} {vs : List Int} {p : List UInt8} {k : Nat} {r : Option (List Int)} (h : r = (pF (Q.drop k)).map (vs ++ ·)) (hd : Q.drop k = p :: Q.drop (k + 1)) (hp : readF p = none) : r = none := by
  rw [h, hd, pF_bad _ hp]; rfl
theorem pF_done {Q : List (List UInt8)} {vs : List Int} {k : Nat} {r : Option (List Int)} (h : r = (pF (Q.drop k)).map (vs ++ ·)) (hk : Q.length ≤ k) : r = some vs := by
  rw [h, List.drop_of_length_le hk]; simp [pF]

theorem sParses_any (s : ByteArray) (w : World) (hs : s.size ≤ 1048576) :
    Calls Tryd.prog 33 #[.string s] w fun e w' => PEnd (parsesF s.data.toList) w e w' := by
  by_cases hnil : s.data.toList = []
  · have hne : s.toList.isEmpty = true := by rw [ByteArray.toList_eq, hnil]; rfl
    have HE : Hid (parsesF s.data.toList = some []) := by show _ = _; rw [hnil]; rfl
    clear hnil
    go_enter Tryd.func33, Tryd.ntmps33
    go_wp2
    go_ret2
    exact PEnd.good HE.out (World.ownsRow_lit _ _ 0 (Nat.le_refl _) (Nat.zero_le _) rfl) ((Below.refl _ _).alloc (Nat.le_refl _) _) (Nat.zero_le _)
  · have hne : s.toList.isEmpty = false := by rw [ByteArray.toList_eq]; simpa using hnil
    have HR := Lib.hid (parsesF_ne hnil)
    clear hnil
    obtain ⟨i0, hi, hz0, hz1, hz2⟩ := info_parts info_int
    have Z0 := Lib.hid hz0
    have Z1 := Lib.hid hz1
    have Z2 := Lib.hid hz2
    have ZI := Lib.hid hi
    have hsz : s.data.toList.length = s.size := by simp
    have HSZ := Lib.hid hsz
    clear hz0 hz1 hz2 hi hsz
    go_enter Tryd.func33, Tryd.ntmps33
    go_wp2_with fail
    refine (cut_any s 32 32 rfl _ hs).mono ?_
    rintro e w1 ⟨x, ps, rfl, hps, hown, hb1, hfew⟩
    have hpos : 0 < ps.length := by
      have h1 : ps.length = (cutL 32 s.data.toList).length := by rw [← hps]; simp
      have h2 : ¬ (cutL 32 s.data.toList).length = 0 := fun h0 => cutL_ne 32 s.data.toList (List.eq_nil_of_length_eq_zero h0)
      omega
    obtain ⟨g, cap, cur, rfl, hg, hblk, hcells⟩ := own_strs hown hpos
    have HK := Lib.hid hblk
    have HP := Lib.hid hps
    have HC := Lib.hid hcells
    have HF := Lib.hid hfew
    have hn1 : ps.length ≤ 1048577 := by have := HSZ.out; omega
    have hbA : Below w.heap.size w w1 := ((Below.refl _ _).alloc (Nat.le_refl _) (.cells #[] 3)).trans (hb1.mono (by simp))
    have hO : w1.ownsRow w.heap.size 3 1 (.slice (some ⟨w.heap.size, 0, none⟩) 0 0) 0 [] := own_under (World.ownsRow_lit w #[] 0 (Nat.le_refl _) (Nat.zero_le _) rfl) hb1
    have HB := Lib.hid hbA
    have HO := Lib.hid hO
    clear hps hown hcells hfew hb1 hbA hO hblk
    obtain ⟨n, hn⟩ : ∃ n, n = ps.length := ⟨_, rfl⟩
    have HN := Lib.hid hn
    rw [← hn] at hpos hn1
    rw [← hn]
    clear hn
    go_wp2_with fail
    go_loopw [4, 16] (fun x i wr => ∃ (k : Nat) (vs : List Int), k ≤ n ∧ i = .int .i64 k ∧ vs.length = k ∧ wr.ownsRow w.heap.size 3 1 x vs.length (vs.map (Value.int .i64)) ∧ Hid (parsesF s.data.toList = (pF ((cutL 32 s.data.toList).drop k)).map (vs ++ ·)) ∧ Hid (Below w.heap.size w wr) ∧ Hid (wr.heap[g]? = w1.heap[g]?)) (fun _ i _ => n - (intOf i).toNat)
    case atStart => exact ⟨0, [], Nat.zero_le _, rfl, rfl, HO.out, by show _ = _; rw [HR.out]; simp, HB.out, rfl⟩
    case round =>
      obtain ⟨k, vs, hk, rfl, hlen, hown, hp, hbw, hgk⟩ := hrel
      have HO2 := Lib.hid hown
      have HL := Lib.hid hlen
      clear hown hlen
      by_cases hlt : k < n
      · have hlt' : k < ps.length := by rw [← HN.out]; exact hlt
        have hc := (World.cell?_of_block (a := ⟨g, k, none⟩) hgk.out).trans (HC.out k hlt')
        obtain ⟨hd, hps⟩ := piece_at HP.out hlt'
        obtain ⟨p, hpe⟩ : ∃ p, p = ps[k] := ⟨_, rfl⟩
        rw [← hpe] at hc hd hps
        have hp63 : p.size ≤ 9223372036854775807 := by have := HSZ.out; omega
        have HD := Lib.hid hd
        clear hd hpe hps
        rcases hr : readF p.data.toList with _ | v
        · have HV := Lib.hid hr
          have HE := Lib.hid (pF_stop hp.out HD.out hr)
          clear hr
          go_wp2_with fail
          refine (sParse_bad _ _ hp63 HV.out).mono ?_
          rintro e w' ⟨rfl, rfl⟩
          go_wp2_with fail
          go_ret2
          exact PEnd.bad HE.out (World.ownsRow_lit _ _ 0 hbw.out.size (Nat.zero_le _) rfl) (hbw.out.alloc hbw.out.size _)
        · have HV := Lib.hid hr
          have HE := Lib.hid (pF_step hp.out HD.out hr)
          clear hr
          go_wp2_with fail
          refine (sParse_good _ _ hp63 _ HV.out).mono ?_
          rintro e w' ⟨rfl, rfl⟩
          go_wp2_with (at_builtin; refine wpList_append_own _ rfl _ _ 23 rfl w.heap.size 3 i0 (.int .i64 0) 1 8 Tryd.underlying23 ZI.out Z0.out Z1.out Z2.out rfl (by decide) _ _ _ rfl (HO2.out.alloc _) ⟨wr.heap.size, 0, none⟩ 1 1 [.int .i64 v] rfl rfl ?c1 ?c2 ?c3 ?c4 ?c5 ?_)
          case c1 =>
            intro j u hj
            match j, hj with
            | 0, hj => simp at hj; subst hj; simp [Addr.add]
          case c2 => intro u hu; simp at hu; subst hu; rfl
          case c3 => have := HL.out; unfold maxLen; omega
          case c4 => have := HL.out; omega
          case c5 => have := hbw.out.size; simp; omega
          · intro v' w5 hown' hgrow _
            have hb5 := (hbw.out.alloc hbw.out.size (.cells #[.int .i64 v] 3)).grown hgrow (by have := hbw.out.size; simp; omega) (fun j hj => (HO2.out.lt j hj).1)
            have hgw : g < wr.heap.size := lt_of_cell? hc
            have hb6 : w5.heap[g]? = w1.heap[g]? := (hgrow.block g (by simp; omega) (own_other HO2.out (hgk.out.trans HK.out) (by decide))).trans ((Below.heap_alloc _ _ _ hgw).trans hgk.out)
            rw [int_snoc] at hown'
            have O5 := Lib.hid hown'
            have B5 := Lib.hid hb5
            have B6 := Lib.hid hb6
            clear hown' hgrow hb5 hb6
            go_wp2
            go_roundw
            case rel => exact ⟨k + 1, vs ++ [v], by omega, by go_num, by rw [List.length_append, HL.out]; rfl, by rw [List.length_append]; exact O5.out, HE.out, B5.out, B6.out⟩
            case measure => simp [intOf]; omega
      · have HE := Lib.hid (pF_done hp.out (by have h1 : (cutL 32 s.data.toList).length = ps.length := by rw [← HP.out]; simp
                                               have := HN.out; omega))
        go_wp2
        go_ret2
        exact PEnd.good HE.out HO2.out hbw.out (by have := HL.out; omega)

theorem split_pieces (s : ByteArray) : (Lib.splitB ⟨#[32]⟩ 0 (Lib.countB s ⟨#[32]⟩) s).map (·.data.toList) = cutL 32 s.data.toList := by
  rw [Lib.splitB_data]
  exact split_cut 32 s.data.toList
theorem set_take {cs : List Value} {vs : List Int} {k : Nat} {v : Int} (h : cs.take k = vs.map (Value.int .i64)) (hk : k < cs.length) : (cs.set k (.int .i64 v)).take (k + 1) = (vs ++ [v]).map (Value.int .i64) := by
  rw [take_set_snoc _ _ _ hk, h]; simp

theorem iParses_any (s : ByteArray) (w : World) (hs : s.size ≤ 1048576) (hmax : MaxC w) :
    Calls Tryd.prog 23 #[.string s] w fun e w' => PEnd (parsesF s.data.toList) w e w' := by
  by_cases hnil : s.data.toList = []
  · have hne : s.toList.isEmpty = true := by rw [ByteArray.toList_eq, hnil]; rfl
    have HE : Hid (parsesF s.data.toList = some []) := by show _ = _; rw [hnil]; rfl
    clear hnil
    go_enter Tryd.func23, Tryd.ntmps23
    go_wp2
    go_ret2
    exact PEnd.good HE.out (World.ownsRow_nil _ _ _ _) (Below.refl _ _) (Nat.zero_le _)
  · have hne : s.toList.isEmpty = false := by rw [ByteArray.toList_eq]; simpa using hnil
    have HR := Lib.hid (parsesF_ne hnil)
    clear hnil
    obtain ⟨i0, hi, hz0, hz1, hz2⟩ := info_parts info_int
    obtain ⟨mx, hmx⟩ := hmax
    have hsz : s.data.toList.length = s.size := by simp
    obtain ⟨ps, hps⟩ : ∃ ps, ps = Lib.splitB ⟨#[32]⟩ 0 (Lib.countB s ⟨#[32]⟩) s := ⟨_, rfl⟩
    have hlen : ps.length = Lib.countB s ⟨#[32]⟩ + 1 := by rw [hps]; exact Lib.splitB_all _ (by decide) 0 _ s rfl
    have hmap : ps.map (·.data.toList) = cutL 32 s.data.toList := by rw [hps]; exact split_pieces s
    have hfew : ps.length ≤ 1048577 := by
      have h1 : ps.length = (cutL 32 s.data.toList).length := by rw [← hmap]; simp
      have := pieces_few 32 s.data.toList
      omega
    obtain ⟨n, hn⟩ : ∃ n, n = ps.length := ⟨_, rfl⟩
    have hsp := Tryd.strings_Split s ⟨#[32]⟩ mx w (by omega) hmx (by decide)
    rw [← hps, ← hlen, ← hn] at hsp
    have HSP := Lib.hid hsp
    have HP := Lib.hid hmap
    have HN := Lib.hid hn
    have HSZ := Lib.hid hsz
    have hn1 : n ≤ 1048577 := by omega
    have Z0 := Lib.hid hz0
    have Z1 := Lib.hid hz1
    have HB2 := Lib.hid (show i0.bytes * n ≤ 281474976710656 by rw [hz2]; omega)
    have HM := Lib.hid (show n ≤ maxLen by unfold maxLen; omega)
    have ZI := Lib.hid hi
    clear hps hlen hmap hfew hsp hn hsz hz0 hz1 hz2 hi hmx
    go_enter Tryd.func23, Tryd.ntmps23
    go_wp2_with fail
    refine HSP.out.mono ?_
    rintro e w1' ⟨rfl, hw1⟩
    obtain ⟨w1, hw1e⟩ : ∃ w1, w1 = w1' := ⟨_, rfl⟩
    have hblk : w1.heap[w.heap.size]? = some (.cells (ps.map Value.string).toArray 9 (0, 0)) := by rw [hw1e, hw1]; exact heap_alloc_new w _
    have hbA : Below w.heap.size w w1 := by rw [hw1e, hw1]; exact (Below.refl _ _).alloc (Nat.le_refl _) _
    have hsz1 : w1.heap.size = w.heap.size + 1 := by rw [hw1e, hw1]; simp
    rw [← hw1e]
    have HBLK := Lib.hid hblk
    have HBA := Lib.hid hbA
    clear hw1 hw1e hblk hbA
    go_wp2_with (at_make; refine wpList_make_full _ rfl _ _ 23 rfl w.heap.size 3 i0 (.int .i64 0) 1 Tryd.underlying23 ZI.out Z0.out Z1.out _ _ _ _ n rfl rfl rfl rfl HB2.out HM.out (by omega) ?_; intro w2 hown hgr)
    have hbB : Below w.heap.size w w2 := HBA.out.grown hgr (by omega) (fun k hk => by cases hk)
    have hg2 : w2.heap[w.heap.size]? = w1.heap[w.heap.size]? := hgr.block _ (by omega) (by simp)
    have HO := Lib.hid hown
    have HB := Lib.hid hbB
    have HG := Lib.hid hg2
    obtain ⟨g2, hg2e⟩ : ∃ g2, g2 = w.heap.size + 1 := ⟨_, rfl⟩
    rw [hsz1, ← hg2e] at HO
    rw [← hg2e]
    have hgne : ¬ w.heap.size = g2 := by omega
    have hgge : w.heap.size ≤ g2 := by omega
    clear hown hgr hbB hg2 hg2e hsz1
    go_wp2_with fail
    go_loopw [19] (fun i wr => ∃ (k : Nat) (cs : List Value) (vs : List Int), k ≤ n ∧ i = .int .i64 k ∧ vs.length = k ∧ Hid (wr.ownsRow w.heap.size 3 1 (.slice (some ⟨g2, 0, none⟩) n n) n cs) ∧ Hid (cs.take k = vs.map (Value.int .i64)) ∧ Hid (parsesF s.data.toList = (pF ((cutL 32 s.data.toList).drop k)).map (vs ++ ·)) ∧ Hid (Below w.heap.size w wr) ∧ Hid (wr.heap[w.heap.size]? = w1.heap[w.heap.size]?)) (fun i _ => n - (intOf i).toNat)
    case atStart => exact ⟨0, _, [], Nat.zero_le _, rfl, rfl, HO.out, rfl, by show _ = _; rw [HR.out]; simp, HB.out, HG.out⟩
    case round =>
      obtain ⟨k, cs, vs, hk, rfl, hlen, hown, htk, hp, hbw, hgk⟩ := hrel
      have HL := Lib.hid hlen
      have HCS : Hid (cs.length = n) := by have := hown.out.1; show _ = _; omega
      clear hlen
      by_cases hlt : k < n
      · have hlt' : k < ps.length := by rw [← HN.out]; exact hlt
        have hc : wr.cell? ⟨w.heap.size, k, none⟩ = some (.string ps[k]) := by
          rw [cell_of_row wr w.heap.size k _ _ (0, 0) (hgk.out.trans HBLK.out)]
          rw [List.getElem?_toArray, List.getElem?_map, List.getElem?_eq_getElem hlt']; rfl
        obtain ⟨hd, hpsz⟩ := piece_at HP.out hlt'
        obtain ⟨p, hpe⟩ : ∃ p, p = ps[k] := ⟨_, rfl⟩
        rw [← hpe] at hc hd hpsz
        have hp63 : p.size ≤ 9223372036854775807 := by have := HSZ.out; omega
        have HD := Lib.hid hd
        clear hd hpe hpsz
        have hgw : w.heap.size < wr.heap.size := lt_of_cell? hc
        rcases hr : readF p.data.toList with _ | v
        · have HV := Lib.hid hr
          have HE := Lib.hid (pF_stop hp.out HD.out hr)
          clear hr
          go_wp2_with fail
          refine (parse_bad _ _ hp63 HV.out).mono ?_
          rintro e w3 ⟨rfl, hb3⟩
          have HB3 := Lib.hid (hbw.out.trans (hb3.mono hbw.out.size))
          clear hb3
          go_wp2_with fail
          go_ret2
          exact PEnd.bad HE.out (World.ownsRow_nil _ _ _ _) HB3.out
        · have HV := Lib.hid hr
          have HE := Lib.hid (pF_step hp.out HD.out hr)
          clear hr
          go_wp2_with fail
          refine (parse_good _ _ hp63 _ HV.out).mono ?_
          rintro e w3 ⟨rfl, hb3⟩
          have hO3 := own_under hown.out hb3
          obtain ⟨u0, hcell⟩ : ∃ u0, w3.cell? ⟨g2, k, none⟩ = some u0 := ⟨_, by rw [hO3.cellAt k (by omega), List.getElem?_eq_getElem (by have := HCS.out; omega)]⟩
          have hfr := hO3.frozenAt k
          obtain ⟨hst, hgs⟩ := hO3.stored k (.int .i64 v)
          have HST := Lib.hid hst
          have HB3 := Lib.hid ((hbw.out.trans (hb3.mono hbw.out.size)).setCell (p := ⟨g2, k, none⟩) hgge (.int .i64 v))
          have HG3 : Hid ((w3.setCell ⟨g2, k, none⟩ (.int .i64 v)).heap[w.heap.size]? = w1.heap[w.heap.size]?) := (Below.heap_setCell w3 ⟨g2, k, none⟩ _ _ hgne).trans ((hb3.block _ hgw).trans hgk.out)
          clear hb3 hO3 hst hgs
          go_wp2_with fail
          go_roundw
          case rel => exact ⟨k + 1, _, vs ++ [v], by omega, by go_num, by rw [List.length_append, HL.out]; rfl, HST.out, set_take htk.out (by have := HCS.out; omega), HE.out, HB3.out, HG3.out⟩
          case measure => simp [intOf]; omega
      · have HE := Lib.hid (pF_done hp.out (by have h1 : (cutL 32 s.data.toList).length = ps.length := by rw [← HP.out]; simp
                                               have := HN.out; omega))
        have hcs : cs = vs.map (Value.int .i64) := by have := htk.out; have h2 := HCS.out; rwa [List.take_of_length_le (by omega)] at this
        have hvn : vs.length = n := by have := HL.out; omega
        have HF : Hid (wr.ownsRow w.heap.size 3 1 (.slice (some ⟨g2, 0, none⟩) n n) vs.length (vs.map (Value.int .i64))) := by show World.ownsRow _ _ _ _ _ _ _; rw [hvn, ← hcs]; exact hown.out
        have HVN := Lib.hid hvn
        clear hcs hvn
        go_wp2_with fail
        go_ret2
        exact PEnd.good HE.out HF.out hbw.out (by have := HVN.out; omega)

end Go.Proofs.YtonnolpjfjbjpaaDoor
