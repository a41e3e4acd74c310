/- The short words that cost nothing: the program's list, taken from its iterator, and the model's; in new memory; nothing that was there changes. No condition. -/
import Derived.Test.YtlfffoglldobeaaWordsC
import Derived.Test.YtlfffoglldobeaaCostM
import Derived.Test.YtlfffoglldobeaaAutS
import Derived.Maps.OwnIn
import Derived.Maps.AppendAt
namespace Go.Proofs.Ytlfffoglldobeaa
open Go.RowKit Go.Shelf
attribute [local go_sem] Oper.semAt_some
set_option maxHeartbeats 4000000
set_option maxRecDepth 100000
set_option linter.unusedVariables false

/-! The words that cost nothing. -/
def costW (n : Nat) (xs ys : List Int) (ss : List StepD) (s : ByteArray) : Int := costF n xs ys ss s.data.toList
def zeroP (n : Nat) (xs ys : List Int) (ss : List StepD) (s : ByteArray) : Bool := decide (costW n xs ys ss s = 0)
def zeros (n : Nat) (xs ys : List Int) (ss : List StepD) (l : List ByteArray) : List ByteArray := l.filter (zeroP n xs ys ss)
theorem zeros_yes {n : Nat} {xs ys : List Int} {ss : List StepD} {l : List ByteArray} {s : ByteArray} (h : costW n xs ys ss s = 0) : zeros n xs ys ss (l ++ [s]) = zeros n xs ys ss l ++ [s] := by
  unfold zeros; rw [List.filter_append]; simp [zeroP, h]
theorem zeros_no {n : Nat} {xs ys : List Int} {ss : List StepD} {l : List ByteArray} {s : ByteArray} (h : ¬ costW n xs ys ss s = 0) : zeros n xs ys ss (l ++ [s]) = zeros n xs ys ss l := by
  unfold zeros; rw [List.filter_append]; simp [zeroP, h]
theorem zeros_len (n : Nat) (xs ys : List Int) (ss : List StepD) (l : List ByteArray) : (zeros n xs ys ss l).length ≤ l.length := List.length_filter_le _ _
/-- .. of words as pairs of numbers. -/
def zerosP (n : Nat) (xs ys : List Int) (ss : List StepD) (l : List (Nat × Nat)) : List (Nat × Nat) := l.filter (fun x => zeroP n xs ys ss (wv x))
theorem zerosP_yes {n : Nat} {xs ys : List Int} {ss : List StepD} {l : List (Nat × Nat)} {s : Nat × Nat} (h : costW n xs ys ss (wv s) = 0) : zerosP n xs ys ss (l ++ [s]) = zerosP n xs ys ss l ++ [s] := by
  unfold zerosP; rw [List.filter_append]; simp [zeroP, h]
theorem zerosP_no {n : Nat} {xs ys : List Int} {ss : List StepD} {l : List (Nat × Nat)} {s : Nat × Nat} (h : ¬ costW n xs ys ss (wv s) = 0) : zerosP n xs ys ss (l ++ [s]) = zerosP n xs ys ss l := by
  unfold zerosP; rw [List.filter_append]; simp [zeroP, h]
theorem zerosP_len (n : Nat) (xs ys : List Int) (ss : List StepD) (l : List (Nat × Nat)) : (zerosP n xs ys ss l).length ≤ l.length := List.length_filter_le _ _
theorem zerosP_map (n : Nat) (xs ys : List Int) (ss : List StepD) (l : List (Nat × Nat)) : (zerosP n xs ys ss l).map wv = zeros n xs ys ss (l.map wv) := by
  unfold zerosP zeros; rw [List.filter_map]; rfl
def zeroR (m : Int) (xs ys : List Int) (ss : List StepD) (k : Int) : Option (List ByteArray) := if autoOk m xs ys ss = true ∧ shortOk k = true then some (zeros m.toNat xs ys ss (wordsTo (k.toNat + 1))) else none
theorem zeroR_some {n k : Nat} {xs ys : List Int} {ss : List StepD} (h : autoOk n xs ys ss = true) (hk : shortOk k = true) : zeroR n xs ys ss k = some (zeros n xs ys ss (wordsTo (k + 1))) := by
  unfold zeroR; rw [if_pos ⟨h, hk⟩]; rfl
theorem zeroR_none {m : Int} {xs ys : List Int} {ss : List StepD} {k : Int} (h : (autoOk m xs ys ss && shortOk k) = false) : zeroR m xs ys ss k = none := by
  unfold zeroR; rw [if_neg (by rintro ⟨h1, h2⟩; rw [h1, h2] at h; cases h)]
theorem zeroR_ok (m : Int) (xs ys : List Int) (ss : List StepD) (k : Int) : (∀ s ∈ (zeroR m xs ys ss k).getD [], s.size ≤ 1000) ∧ ((zeroR m xs ys ss k).getD []).length ≤ 256 := by
  unfold zeroR
  split
  · rename_i h
    obtain ⟨n, rfl, hn⟩ := shortOk_in h.2
    have h0 := shortR_ok n
    rw [shortR_yes h.2] at h0
    refine ⟨fun s hs => h0.1 s (List.mem_filter.1 hs).1, Nat.le_trans (zeros_len _ _ _ _ _) h0.2⟩
  · exact ⟨fun s hs => (by cases hs), Nat.zero_le _⟩
/-- What is returned. -/
def ZEnd (r : Option (List ByteArray)) (w : World) (e : Ending) (w' : World) : Prop :=
  ∃ x, e = .returned (.tuple #[x, .bool r.isSome]) ∧ w'.ownsRow w.heap.size 9 1 x (r.getD []).length ((r.getD []).map Value.string) ∧ Below w.heap.size w w'
theorem ZEnd.bad {r : Option (List ByteArray)} {w w' : World} {x : Value} (hr : r = none) (ho : w'.ownsRow w.heap.size 9 1 x 0 []) (hb : Below w.heap.size w w') : ZEnd r w (.returned (.tuple #[x, .bool false])) w' := by
  subst hr; exact ⟨x, rfl, ho, hb⟩
theorem ZEnd.good {r : Option (List ByteArray)} {w w' : World} {x : Value} {vs : List ByteArray} (hr : r = some vs) (ho : w'.ownsRow w.heap.size 9 1 x vs.length (vs.map Value.string)) (hb : Below w.heap.size w w') : ZEnd r w (.returned (.tuple #[x, .bool true])) w' := by
  subst hr; exact ⟨x, rfl, ho, hb⟩

theorem iFreeW_any (m : Int) (A1 A2 A3 : Option Addr) (c1 c2 c3 : Nat) (xs ys : List Int) (ss : List StepD) (k : Int) (w : World) (hx : Ints w w.heap.size A1 xs) (hy : Ints w w.heap.size A2 ys) (hs : SRow w w.heap.size A3 ss) :
    Calls Try.prog 7 #[.agg #[.int .i64 m, .slice A1 xs.length c1, .slice A2 ys.length c2, .slice A3 ss.length c3], .int .i64 k] w fun e w' => ZEnd (zeroR m xs ys ss k) w e w' := by
  have HX0 := Lib.hid (ints_al hx (.cells #[.int .i64 m, .slice A1 xs.length c1, .slice A2 ys.length c2, .slice A3 ss.length c3] 32))
  have HY0 := Lib.hid (ints_al hy (.cells #[.int .i64 m, .slice A1 xs.length c1, .slice A2 ys.length c2, .slice A3 ss.length c3] 32))
  have HS := Lib.hid (hs.al (.cells #[.int .i64 m, .slice A1 xs.length c1, .slice A2 ys.length c2, .slice A3 ss.length c3] 32))
  clear hx hy hs
  obtain ⟨b, hb⟩ : ∃ b, (autoOk m xs ys ss && shortOk k) = b := ⟨_, rfl⟩
  cases b
  · have HOK := Lib.hid hb
    have HR := Lib.hid (zeroR_none hb)
    clear hb
    go_enter Try.func7, Try.ntmps7
    go_wp2_with fail
    refine (shortReader_no _ _ _ _ _ _ _ _ _ _ _ _ HX0.out HY0.out HS.out HOK.out).mono ?_
    rintro e w1 ⟨rfl, hb1⟩
    have B1 := Lib.hid (below_on (below_a1 w _) hb1.out)
    clear hb1 HX0 HY0 HS
    go_wp2_with fail
    go_ret2
    exact ZEnd.bad HR.out (World.ownsRow_nil _ _ _ _) (below_al B1.out (Nat.le_refl _) _)
  · rw [Bool.and_eq_true] at hb
    obtain ⟨hok, hwk⟩ := hb
    obtain ⟨n, rfl, n1, n2, hxi, _, _, hsi⟩ := auto_in hok
    obtain ⟨k, rfl, hk7⟩ := shortOk_in hwk
    have HR := Lib.hid (zeroR_some hok hwk)
    have HOK := Lib.hid hok
    have HWK := Lib.hid hwk
    have HSI := Lib.hid hsi
    have HXI := Lib.hid hxi
    clear hok hwk hsi hxi
    refine (callsIn_wide (n := 4)).1 ?_
    refine callsIn_of_wp_marks Try.func7 rfl trivial ?_ rfl
    simp only [Try.ntmps7, List.size_toArray, List.length_cons, List.length_nil, Nat.reduceAdd, Nat.reduceSub, Array.replicate_succ, Array.replicate_zero, List.push_toArray, List.append_toArray, List.nil_append, List.cons_append]
    gi_wp2_with fail
    refine ⟨trivial, ?_⟩
    refine (callsIn_wide.2 (shortReader_ok _ _ _ _ _ _ _ _ _ _ _ _ HX0.out HY0.out HS.out HOK.out HWK.out)).mono ?_
    rintro e w1 ⟨M, rfl, hM, hmap, hb1⟩
    have B1 := Lib.hid (below_on (below_a1 w _) hb1.out)
    have hMw := hmap.out.lt
    obtain ⟨cnt, hmap2⟩ : ∃ c, CMap w1 M c (costAt ss) := ⟨_, hmap.out⟩
    have MM := Lib.hid hmap2
    clear hb1 HX0 HY0 HS hM hmap hmap2
    gi_wp2_with fail
    refine ⟨trivial, ?_⟩
    refine (callsIn_wide.2 (shortWords_any k _)).mono ?_
    rintro e W0 ⟨rfl, hW0⟩
    simp only [World.size_alloc] at hW0 ⊢
    have mX : Hid (Blk W0 w1.heap.size 51 #[.int .i64 n, .bool (hasB xs 0), .bool (hasB xs 1), .bool (hasB xs 2), .bool (hasB xs 3), .bool (hasB ys 0), .bool (hasB ys 1), .bool (hasB ys 2), .bool (hasB ys 3), .map (some M)]) := by rw [hW0]; exact ((Blk.new w1 _ _).alloc _).alloc _
    have mT : Hid (Boxed W0 (w1.heap.size + 1) 27 (.slice none 0 0)) := by
      show Boxed _ _ _ _
      have h := Boxed.new (w1.alloc (.cells #[.int .i64 n, .bool (hasB xs 0), .bool (hasB xs 1), .bool (hasB xs 2), .bool (hasB xs 3), .bool (hasB ys 0), .bool (hasB ys 1), .bool (hasB ys 2), .bool (hasB ys 3), .map (some M)] 51)) 27 (.slice none 0 0)
      have e : (w1.alloc (.cells #[.int .i64 n, .bool (hasB xs 0), .bool (hasB xs 1), .bool (hasB xs 2), .bool (hasB xs 3), .bool (hasB ys 0), .bool (hasB ys 1), .bool (hasB ys 2), .bool (hasB ys 3), .map (some M)] 51)).heap.size = w1.heap.size + 1 := by simp
      rw [e] at h
      rw [hW0]
      exact h.alloc _
    have mB : Hid (Blk W0 (w1.heap.size + 1 + 1) 3 #[.int .i64 k]) := by rw [hW0]; exact blk_new (by simp)
    have hB1 : Below w1.heap.size w1 W0 := by rw [hW0]; exact below_a3 w1 _ _ _
    have hB0 : Hid (Below w.heap.size w W0) := below_on B1.out hB1
    have MM0 := Lib.hid (MM.out.below hB1)
    have hsz : W0.heap.size = w1.heap.size + 3 := by rw [hW0]; simp
    have hw1 : w.heap.size ≤ w1.heap.size := B1.out.size
    clear MM hW0 hB1 B1
    obtain ⟨X, hX⟩ : ∃ T, T = w1.heap.size := ⟨_, rfl⟩
    obtain ⟨T, hT⟩ : ∃ T, T = w1.heap.size + 1 := ⟨_, rfl⟩
    obtain ⟨nb, hnb⟩ : ∃ T, T = w1.heap.size + 1 + 1 := ⟨_, rfl⟩
    rw [← hT] at mT
    rw [← hnb] at mB
    rw [← hX] at mX
    rw [← hnb, ← hT, ← hX]
    have kT0 : w.heap.size ≤ X := by omega
    have kT1 : X < T := by omega
    have kT2 : T < nb := by omega
    have kT4 : nb < W0.heap.size := by omega
    have kM : M < X := by omega
    obtain ⟨i0, hi, hz0, hz1, hz2⟩ := info_parts info_string
    have ZI := Lib.hid hi
    have Z0 := Lib.hid hz0
    have Z1 := Lib.hid hz1
    have Z2 := Lib.hid hz2
    clear hi hz0 hz1 hz2
    have HSEQ := words_seq k nb 3 W0 hk7 (by omega) mB.out
    clear hT hnb hX mB hsz hw1 hMw
    gi_wp2_with fail
    refine wpIn_over rfl (by omega) (gf := 38) rfl trivial (enters_of Try.func38 (by kernel_rfl) rfl) HSEQ
      (fun j hj => by have : j = nb := hj; omega) (Below.refl _ _) (fun _ => rfl)
      (fun J pre W => (∀ j ∈ J, W0.heap.size ≤ j) ∧ Blk W X 51 #[.int .i64 n, .bool (hasB xs 0), .bool (hasB xs 1), .bool (hasB xs 2), .bool (hasB xs 3), .bool (hasB ys 0), .bool (hasB ys 1), .bool (hasB ys 2), .bool (hasB ys 3), .map (some M)] ∧ ListW W T (W0.heap.size + 2) J (zerosP n xs ys ss pre) ∧ CMap W M cnt (costAt ss) ∧ Below w.heap.size w W ∧ W0.heap.size ≤ W.heap.size)
      (fun J s A D row h hg hr => by
        obtain ⟨h1, h2, h3, h4, h5, h6⟩ := h
        have ne : ∀ k, k < W0.heap.size → some k ≠ row := fun k hk e => by
          rcases hr k e.symm with h | h | h
          · have := h1 k h; omega
          · omega
          · omega
        exact ⟨h1, h2.stay hg (ne _ (by omega)), h3.turn hg (ne _ (by omega)) (fun r e => by
          rcases hr r e with h | h | h
          · exact Or.inl h
          · right; omega
          · right; omega), h4.kept hg (ne _ (by omega)), h5.grown hg h5.size (fun j hj => by
          rcases hr j hj with h | h | h
          · have := h1 j h; omega
          · omega
          · omega), Nat.le_trans h6 hg.size⟩)
      (fun J s A D j h hg hj1 hj2 => by
        obtain ⟨h1, h2, h3, h4, h5, h6⟩ := h
        exact ⟨fun i hi => by
          rcases List.mem_cons.1 hi with rfl | hi
          · omega
          · exact h1 i hi, h2.stay hg (by simp), h3.new hg hj1, h4.kept hg (by simp), h5.grown hg h5.size (fun j hj => by cases hj), Nat.le_trans h6 hg.size⟩)
      ⟨fun j hj => (by cases hj), mX.out, ⟨_, mT.out, World.ownsRow_nil _ _ _ _, fun j hj => by cases hj⟩, MM0.out, hB0.out, Nat.le_refl _⟩
      (fun J pre x a' W => a' = { tmps := #[(.agg #[.int .i64 n, .slice A1 xs.length c1, .slice A2 ys.length c2, .slice A3 ss.length c3]), .int .i64 k, .pointer (some ⟨w.heap.size, 0, none⟩), undef, .slice none 0 0, .bool false, .pointer (some ⟨X, 0, none⟩), .bool true, .pointer (some ⟨T, 0, none⟩), .string (wv x), (.tuple #[.agg #[.int .i64 n, .bool (hasB xs 0), .bool (hasB xs 1), .bool (hasB xs 2), .bool (hasB xs 3), .bool (hasB ys 0), .bool (hasB ys 1), .bool (hasB ys 2), .bool (hasB ys 3), .map (some M)], .bool true]), (.agg #[.int .i64 n, .slice A1 xs.length c1, .slice A2 ys.length c2, .slice A3 ss.length c3]), .int .i64 k, (.tuple #[.agg #[.int .i64 n, .bool (hasB xs 0), .bool (hasB xs 1), .bool (hasB xs 2), .bool (hasB xs 3), .bool (hasB ys 0), .bool (hasB ys 1), .bool (hasB ys 2), .bool (hasB ys 3), .map (some M)], .bool true]), .agg #[.int .i64 n, .bool (hasB xs 0), .bool (hasB xs 1), .bool (hasB xs 2), .bool (hasB xs 3), .bool (hasB ys 0), .bool (hasB ys 1), .bool (hasB ys 2), .bool (hasB ys 3), .map (some M)], .bool true, .bool true, .bool false, .int .i64 k, .func (.func 38) #[] #[.pointer (some ⟨nb, 0, none⟩)], .string (wv x), undef, undef, undef, undef, undef, undef, undef, undef, undef], defers := [] } ∧ (∀ j ∈ J, W0.heap.size ≤ j) ∧ Blk W X 51 #[.int .i64 n, .bool (hasB xs 0), .bool (hasB xs 1), .bool (hasB xs 2), .bool (hasB xs 3), .bool (hasB ys 0), .bool (hasB ys 1), .bool (hasB ys 2), .bool (hasB ys 3), .map (some M)] ∧ ListW W T (W0.heap.size + 2) J (zerosP n xs ys ss pre) ∧ CMap W M cnt (costAt ss) ∧ Below w.heap.size w W ∧ W0.heap.size ≤ W.heap.size)
      (fun J pre x a' A D h hg => by
        obtain ⟨g3, h1, h2, h3, h4, h5, h6⟩ := h
        exact ⟨g3, h1, h2.stay hg (fun e => by have := Option.some.inj e; omega), h3.turn hg (fun e => by have := Option.some.inj e; omega) (fun r e => by have := Option.some.inj e; right; omega), h4.kept hg (fun e => by have := Option.some.inj e; omega), h5.grown hg h5.size (fun j hj => by have := Option.some.inj hj; omega), Nat.le_trans h6 hg.size⟩)
      ?assign ?body ?done
    case assign =>
      rintro q J pre x W K hI hXb hsb hlen hK
      gi_wp2_with fail
      exact hK _ _ ⟨rfl, hI⟩ ⟨Nat.le_refl _, fun j hj => rfl⟩
    case body =>
      rintro q J pre x a' W ⟨rfl, h1, h2, h3, h4, h5, h6⟩ hXb hsb hlen
      obtain ⟨z, hz⟩ : ∃ z, costF n xs ys ss (wv x).data.toList = z := ⟨_, rfl⟩
      obtain ⟨vs, hvs⟩ : ∃ vs, zerosP n xs ys ss pre = vs := ⟨_, rfl⟩
      have hvl : vs.length ≤ 256 := by rw [← hvs]; have := zerosP_len n xs ys ss pre; omega
      have hzy : z = 0 → zerosP n xs ys ss (pre ++ [x]) = vs ++ [x] := fun h => by
        rw [← hvs]; exact zerosP_yes (show costW n xs ys ss (wv x) = 0 by unfold costW; rw [hz]; exact h)
      have hzn : ¬ z = 0 → zerosP n xs ys ss (pre ++ [x]) = vs := fun h => by
        rw [← hvs]; exact zerosP_no (show ¬ costW n xs ys ss (wv x) = 0 by unfold costW; rw [hz]; exact h)
      rw [hvs] at h3
      have HZ := Lib.hid hz
      have HZY := Lib.hid hzy
      have HZN := Lib.hid hzn
      have H1 := Lib.hid h1
      have HXB := Lib.hid hXb
      have H2 := Lib.hid h2
      have H3 := Lib.hid h3
      have H4 := Lib.hid h4
      have H5 := Lib.hid h5
      have hsx : (wv x).size ≤ 1000 := by have := wv_size x; omega
      clear hz hvs hzy hzn h1 hXb h3 h4 h5
      obtain ⟨d0, d1, d2, d3, d4, d5, d6, d7, d8, d9⟩ := ten_cells h2
      gi_wp2_with fail
      refine ⟨trivial, ?_⟩
      refine (CallsIn.inRound q (callsIn_wide.2 (costOf_any n M _ _ _ _ _ _ _ _ _ xs ys ss (wv x) _ n2 HXI.out HSI.out hsx (wv_ab x) rfl rfl H4.out))).mono ?_
      rintro e W1 ⟨rfl, hb1⟩
      rw [HZ.out]
      have hbW : W.heap.size ≤ W1.heap.size := hb1.size
      have H21 := Lib.hid (H2.out.below hb1 (Blk.lt H2.out))
      have H31 := Lib.hid (H3.out.turn (grown_of_below hb1) (by simp) (fun r e => by cases e))
      have H41 := Lib.hid (H4.out.below hb1)
      have H51 := Lib.hid (H5.out.trans (hb1.mono H5.out.size))
      clear d0 d1 d2 d3 d4 d5 d6 d7 d8 d9 h2
      have HB1 := Lib.hid hb1
      clear hb1 H3
      have hkJ : ∀ j, (j ∈ J ∨ j = nb ∨ j = W0.heap.size ∨ j = W0.heap.size + 1) → j < W.heap.size ∧ j ≠ T := fun j hj => by
        rcases hj with hj | hj | hj | hj
        · have := HXB.out j hj; omega
        · omega
        · omega
        · omega
      have HKJ := Lib.hid hkJ
      clear hkJ
      by_cases hz0 : z = 0
      · subst hz0
        have HT := Lib.hid (HZY.out rfl)
        clear HZY HZN HZ
        obtain ⟨v, hv, hrow, hvJ⟩ := H31.out
        clear H31
        have hvc := hv.cell
        have hvf := hv.frozen
        have hTW : T < W1.heap.size := by omega
        have hvT : ∀ j, v.ownBlock = some j → T < j := fun j hj => by have := (hrow.lt j hj).1; omega
        have HROW := Lib.hid hrow
        have HV := Lib.hid hv
        have HVJ := Lib.hid hvJ
        have HVT := Lib.hid hvT
        clear hrow hv hvJ hvT
        gi_wp2_with (first
          | (gi_at_builtin; refine wpListIn_append_own_at _ rfl _ _ 27 rfl (W0.heap.size + 2) 9 i0 (.string ByteArray.empty) 1 16 Try.underlying27 ZI.out Z0.out Z1.out Z2.out rfl (by decide) _ _ _ rfl (HROW.out.alloc _) ⟨W1.heap.size, 0, none⟩ 1 1 [.string (wv x)] rfl rfl (World.news_of_block (Blk.new W1 9 #[.string (wv x)])) (by simp [Value.oneCell']) (by unfold maxLen; omega) (by omega) (by simp; omega) ?_; intro v' w5 hown' hgrow _ hat; obtain ⟨g', cap', rfl⟩ := ownsRow_succ hown'; have hV5 := Boxed.kept (Boxed.alloc HV.out (.cells #[.string (wv x)] 9)) hgrow (row_far HVT.out); have hvc2 := hV5.cell; have hvf2 := hV5.frozen; have HO5 := Lib.hid hown'; have HG5 := Lib.hid hgrow; have HA5 := Lib.hid hat; have HV5 := Lib.hid hV5; clear hown' hgrow hat hV5)
          | fail)
        obtain ⟨w7, hw7⟩ : ∃ w7, w7 = w5.setCell ⟨T, 0, none⟩ (.slice (some ⟨g', 0, none⟩) (vs.length + 1) cap') := ⟨_, rfl⟩
        have hg7 : w5.grownBy w7 (some T) := by rw [hw7]; exact grow_set w5 T 0 _
        rw [← hw7]
        have hsA : W1.heap.size + 1 ≤ w5.heap.size := by have := HG5.out.size; simp at this; omega
        have hbk : ∀ j, j < W1.heap.size → j ≠ T → (∀ o, v.ownBlock = some o → j ≠ o) → w7.heap[j]? = W1.heap[j]? := fun j hj hjT hjo => by
          have e1 := Below.heap_alloc W1 (.cells #[.string (wv x)] 9) j hj
          have e2 := HG5.out.block j (by simp; omega) (fun e => hjo j e.symm rfl)
          have e3 := hg7.block j (by omega) (fun e => hjT (Option.some.inj e))
          exact e3.trans (e2.trans e1)
        have hsz7 : W1.heap.size ≤ w7.heap.size := by have := hg7.size; omega
        have hob : ∀ o, v.ownBlock = some o → W0.heap.size + 2 ≤ o := fun o ho => (HROW.out.lt o ho).1
        have hg'lo : W0.heap.size + 2 ≤ g' := (HO5.out.lt g' rfl).1
        have hgg : (W1.alloc (.cells #[.string (wv x)] 9)).grownBy w5 v.ownBlock := HG5.out
        refine ⟨⟨Nat.le_trans hbW hsz7, fun j hj => ?_⟩, H1.out, ?_, ?_, ?_, ?_, Nat.le_trans h6 (Nat.le_trans hbW hsz7)⟩
        · have hjW := HKJ.out j hj
          refine (hbk j (by omega) hjW.2 (fun o ho e => ?_)).trans (HB1.out.block j hjW.1)
          rcases hj with hj | hj | hj | hj
          · exact HVJ.out j hj (by rw [ho, e])
          · have := hob o ho; omega
          · have := hob o ho; omega
          · have := hob o ho; omega
        · exact (hbk X (by omega) (by omega) (fun o ho => by have := hob o ho; omega)).trans H21.out
        · refine ⟨_, by rw [hw7]; exact HV5.out.set _, ?_, ?_⟩
          · rw [hw7]
            refine ownsRow_setCell_other ?_ (a := ⟨T, 0, none⟩) ?_ _
            · have h := HO5.out
              rw [HT.out, List.map_append, List.length_append]
              exact h
            · intro e; have e' : g' = T := Option.some.inj e; omega
          · intro j hj e
            have e' : g' = j := Option.some.inj e
            subst e'
            have h := HXB.out _ hj
            rcases HA5.out with h' | h'
            · exact HVJ.out _ hj h'.symm
            · have h2 : g' = (W1.alloc (.cells #[.string (wv x)] 9)).heap.size := Option.some.inj h'
              simp at h2; omega
        · exact ((H41.out.below (below_a1 W1 _)).kept hgg (fun e => by have := hob M e.symm; omega)).kept hg7 (fun e => by have := Option.some.inj e; omega)
        · have b5 := (below_al H51.out (Nat.le_refl _) (.cells #[.string (wv x)] 9)).grown HG5.out (by have := H51.out.size; simp; omega) (fun j hj => by have := hob j hj; omega)
          exact b5.grown hg7 b5.size (fun j hj => by have := Option.some.inj hj; omega)
      · have HT := Lib.hid (HZN.out hz0)
        clear HZY HZN
        gi_wp2_with fail
        refine ⟨⟨hbW, fun j hj => HB1.out.block j (HKJ.out j hj).1⟩, H1.out, H21.out, ?_, H41.out, H51.out, Nat.le_trans h6 hbW⟩
        rw [HT.out]
        exact H31.out
    case done =>
      rintro J vs W hvs ⟨h1, h2, ⟨v, hv, hrow, hvJ⟩, h4, h5, h6⟩ hK
      have hlast : (vs.map wv) = wordsTo (k + 1) := by rw [hvs, wordsP_wv _ (by omega)]
      have hzz : (zerosP n xs ys ss vs).map wv = zeros n xs ys ss (wordsTo (k + 1)) := by rw [zerosP_map, hlast]
      have hrow' : W.ownsRow (W0.heap.size + 2) 9 1 v (zeros n xs ys ss (wordsTo (k + 1))).length ((zeros n xs ys ss (wordsTo (k + 1))).map Value.string) := by
        rw [← hzz, List.length_map, List.map_map]
        exact hrow
      have hvc := hv.cell
      have HROW := Lib.hid hrow'
      have HK := Lib.hid hK
      have H5 := Lib.hid h5
      clear hlast hvs h1 h2 hrow hrow' hzz hvJ h4 h5 hK
      gi_wp2_with fail
      refine ⟨by simp, .inl ⟨_, _, rfl, run_takeDeferred HK.out, ?_⟩⟩
      refine ⟨_, results_2 rfl (Gives.tmp rfl) (Gives.tmp rfl), ZEnd.good HR.out (own_baseW (ownsRow_putObj HROW.out _ HK.out rfl) (by have := hB0.out.size; omega)) (H5.out.grown (grownBy_putObj' W _ _) H5.out.size (fun j hj => by have := Option.some.inj hj; have := hB0.out.size; omega))⟩
theorem own_open {w : World} {base n : Nat} {t : TypeId} {x : Value} {cs : List Value} (h : w.ownsRow base t 1 x n cs) : ∃ A k c, x = .slice A k c := by
  rcases h.2 with ⟨rfl, _⟩ | ⟨g, cap, cur, rfl, _⟩
  · exact ⟨_, _, _, rfl⟩
  · exact ⟨_, _, _, rfl⟩
theorem sFreeW_any (m : Int) (A1 A2 A3 : Option Addr) (c1 c2 c3 : Nat) (xs ys : List Int) (ss : List StepD) (k : Int) (w : World) (hx : Ints w w.heap.size A1 xs) (hy : Ints w w.heap.size A2 ys) (hs : SRow w w.heap.size A3 ss) :
    Calls Try.prog 5 #[.agg #[.int .i64 m, .slice A1 xs.length c1, .slice A2 ys.length c2, .slice A3 ss.length c3], .int .i64 k] w fun e w' => ZEnd (zeroR m xs ys ss k) w e w' := by
  have HX0 := Lib.hid (ints_al hx (.cells #[.int .i64 m, .slice A1 xs.length c1, .slice A2 ys.length c2, .slice A3 ss.length c3] 32))
  have HY0 := Lib.hid (ints_al hy (.cells #[.int .i64 m, .slice A1 xs.length c1, .slice A2 ys.length c2, .slice A3 ss.length c3] 32))
  have HS0 := Lib.hid (hs.al (.cells #[.int .i64 m, .slice A1 xs.length c1, .slice A2 ys.length c2, .slice A3 ss.length c3] 32))
  have K0 := Lib.hid (Blk.new w 32 #[.int .i64 m, .slice A1 xs.length c1, .slice A2 ys.length c2, .slice A3 ss.length c3])
  have B0 := Lib.hid (below_a1 w (.cells #[.int .i64 m, .slice A1 xs.length c1, .slice A2 ys.length c2, .slice A3 ss.length c3] 32))
  clear hx hy hs
  obtain ⟨b, hb⟩ : ∃ b, autoOk m xs ys ss = b := ⟨_, rfl⟩
  have HOK := Lib.hid hb
  obtain ⟨b2, hb2⟩ : ∃ b, shortOk k = b := ⟨_, rfl⟩
  have HSK := Lib.hid hb2
  have hl1 : decide (0 ≤ k ∧ k ≤ 7) = b2 := by rw [← hb2]; unfold shortOk; exact Bool.decide_and _ _
  have HL1 := Lib.hid hl1
  clear hb hb2 hl1
  go_enter Try.func5, Try.ntmps5
  go_wp2_with fail
  obtain ⟨w1, hw1⟩ : ∃ w1, w1 = w.alloc (.cells #[.int .i64 m, .slice A1 xs.length c1, .slice A2 ys.length c2, .slice A3 ss.length c3] 32) := ⟨_, rfl⟩
  have hs1 : w1.heap.size = w.heap.size + 1 := by rw [hw1]; simp
  rw [← hw1] at HX0 HY0 HS0 K0 B0
  rw [← hw1]
  obtain ⟨G0, hG0⟩ : ∃ L, L = w.heap.size + 1 := ⟨_, rfl⟩
  rw [← hG0] at hs1 ⊢
  have L1 : Hid ((w1.alloc (.cells #[] 9)).ownsRow G0 9 1 (.slice (some ⟨G0, 0, none⟩) 0 0) 0 []) := by
    have h := World.ownsRow_lit (e := 9) (size := 1) w1 #[] 0 (Nat.le_refl _) (Nat.zero_le _) rfl
    rw [hs1] at h
    exact h
  have B1a := Lib.hid (below_a1 w1 (.cells #[] 9))
  have HL := Lib.hid hs1
  have kL : w.heap.size < G0 := by omega
  obtain ⟨w0, hw0⟩ : ∃ w0, w0 = w1.alloc (.cells #[] 9) := ⟨_, rfl⟩
  rw [← hw0] at L1 B1a
  rw [← hw0]
  have HX0a := Lib.hid ((HX0.out.below B1a.out).more B1a.out.size)
  have HY0a := Lib.hid ((HY0.out.below B1a.out).more B1a.out.size)
  have HS0a := Lib.hid (HS0.out.on B1a.out)
  have K0a := Lib.hid (blk_b K0.out B1a.out)
  have hs0 : Hid (w0.heap.size = G0 + 1) := by show _ = _; rw [hw0]; simp; omega
  clear hw1 hs1 hG0 hw0
  refine (sAutomatonValid_is _ _ _ _ _ _ _ _ _ _ b _ HX0a.out HY0a.out HS0a.out HOK.out).mono ?_
  rintro e w2a ⟨rfl, hb1⟩
  have B1 := Lib.hid (below_on B1a.out hb1.out)
  have L2 := Lib.hid (own_under L1.out hb1.out)
  have hs2 : G0 < w2a.heap.size := by have := hb1.out.size; have := hs0.out; omega
  clear hb1 HX0a HY0a HS0a K0a
  cases b
  · have HN := Lib.hid (zeroR_none (m := m) (xs := xs) (ys := ys) (ss := ss) (k := k) (by rw [HOK.out]; rfl))
    go_wp2_with fail
    go_ret2
    exact ZEnd.bad HN.out (own_base L2.out (Nat.le_of_lt kL)) (below_on B0.out B1.out)
  go_wp2_with fail
  refine (l1In_is _ _ _ b2 _ HL1.out).mono ?_
  rintro e wz ⟨rfl, rfl⟩
  cases b2
  · have HN := Lib.hid (zeroR_none (m := m) (xs := xs) (ys := ys) (ss := ss) (k := k) (by rw [HOK.out, HSK.out]; rfl))
    go_wp2_with fail
    go_ret2
    exact ZEnd.bad HN.out (own_base L2.out (Nat.le_of_lt kL)) (below_on B0.out B1.out)
  obtain ⟨n, rfl, n1, n2, hxi, hyi, _, hsi⟩ := auto_in HOK.out
  obtain ⟨k, rfl, hk7⟩ := shortOk_in HSK.out
  have HR := Lib.hid (zeroR_some HOK.out HSK.out)
  have HSI := Lib.hid hsi
  have HXI := Lib.hid hxi
  have HYI := Lib.hid hyi
  clear hsi hxi hyi HOK HSK HL1
  go_wp2_with fail
  refine (l4Words_any k _ hk7).mono ?_
  rintro e w2 ⟨x, rfl, hrow, hb2⟩
  obtain ⟨L, hL⟩ : ∃ L, L = wordsTo (k + 1) := ⟨_, rfl⟩
  have hLl : L.length + 1 = 2 ^ (k + 1) := by rw [hL]; exact wordsTo_len _
  have hL1 : 1 ≤ L.length := by
    have : 2 ^ 1 ≤ 2 ^ (k + 1) := Nat.pow_le_pow_right (by omega) (by omega)
    omega
  have hL2 : L.length ≤ 256 := by
    have : 2 ^ (k + 1) ≤ 2 ^ 8 := Nat.pow_le_pow_right (by omega) (by omega)
    omega
  have hLok : ∀ s ∈ L, s.size ≤ 7 ∧ s.data.toList.all isAB = true := by rw [hL]; exact wordsTo_ok _ (by omega)
  rw [← hL] at hrow
  have HR2 : Hid (zeroR n xs ys ss k = some (zeros n xs ys ss L)) := by show _ = _; rw [hL]; exact HR.out
  clear HR
  obtain ⟨g, cap, rfl, hg0, hgw, hcap, hcm⟩ := row_form hrow hL1
  have B2 := Lib.hid (below_on B1.out hb2)
  have L3 := Lib.hid (own_under L2.out hb2)
  have ROW : Hid (∀ i s, L[i]? = some s → w2.cell? ⟨g, i, none⟩ = some (.string s)) := by
    intro i s hs
    have h := hrow.cells (g := g) rfl i (.string s) (by rw [List.getElem?_map, hs]; rfl)
    have e : ((⟨g, 0, none⟩ : Addr).add i) = ⟨g, i, none⟩ := by rw [Addr.add_lit, Nat.zero_add]
    rwa [e] at h
  have HLOK := Lib.hid hLok
  have hg00 : G0 < g := Nat.lt_of_lt_of_le hs2 hg0
  obtain ⟨i0, hi, hz0, hz1, hz2⟩ := info_parts info_string
  have ZI := Lib.hid hi
  have Z0 := Lib.hid hz0
  have Z1 := Lib.hid hz1
  have Z2 := Lib.hid hz2
  clear hrow hb2 hLok hL hLl B1 L1 L2 B1a hg0 hi hz0 hz1 hz2
  go_wp2_with fail
  go_loopw [6, 22] (fun a i wr => ∃ (q : Nat), q ≤ L.length ∧ i = .int .i64 q ∧ Hid (wr.ownsRow G0 9 1 a (zeros n xs ys ss (L.take q)).length ((zeros n xs ys ss (L.take q)).map Value.string)) ∧ Hid (Below w1.heap.size w1 wr) ∧ Hid (∀ i s, L[i]? = some s → wr.cell? ⟨g, i, none⟩ = some (.string s)) ∧ g < wr.heap.size ∧ Hid (a.ownBlock ≠ some g)) (fun _ i _ => L.length - (intOf i).toNat)
  case atStart => exact ⟨0, Nat.zero_le _, rfl, L3, B2, ROW, hgw, fun e => by have h : G0 = g := Option.some.inj e; omega⟩
  case round =>
    obtain ⟨q, hq, rfl, ho, hbr, hrw, hgr, hng⟩ := hrel
    by_cases hlt : q < L.length
    · obtain ⟨s, hs⟩ : ∃ s, L[q] = s := ⟨_, rfl⟩
      have hsm : s ∈ L := by rw [← hs]; exact List.getElem_mem _
      obtain ⟨hs1, hs2'⟩ := HLOK.out s hsm
      have hldr : wr.cell? ⟨g, q, none⟩ = some (.string s) := hrw.out q s (by rw [List.getElem?_eq_getElem hlt, hs])
      have htk : L.take (q + 1) = L.take q ++ [s] := by rw [← hs]; exact List.take_succ_eq_append_getElem hlt
      have HS2' := Lib.hid hs2'
      obtain ⟨z, hz⟩ : ∃ z, costF n xs ys ss s.data.toList = z := ⟨_, rfl⟩
      have HZ := Lib.hid hz
      have KR := Lib.hid (blk_b K0.out hbr.out)
      obtain ⟨k0, k1, k2, k3⟩ := four_cells KR.out
      have kl := Blk.lt KR.out
      have hq1 : (q : Int) < (L.length : Int) := by omega
      obtain ⟨vs, hvs⟩ : ∃ vs, zeros n xs ys ss (L.take q) = vs := ⟨_, rfl⟩
      have hvl : vs.length ≤ 256 := by
        rw [← hvs]; have h1 := zeros_len n xs ys ss (L.take q); have h2 : (L.take q).length ≤ L.length := by rw [List.length_take]; omega
        omega
      have hyes : z = 0 → zeros n xs ys ss (L.take (q + 1)) = vs ++ [s] := fun h => by
        rw [htk, ← hvs]; exact zeros_yes (show costW n xs ys ss s = 0 by unfold costW; rw [hz]; exact h)
      have hno : ¬ z = 0 → zeros n xs ys ss (L.take (q + 1)) = vs := fun h => by
        rw [htk, ← hvs]; exact zeros_no (show ¬ costW n xs ys ss s = 0 by unfold costW; rw [hz]; exact h)
      have HYES := Lib.hid hyes
      have HNO := Lib.hid hno
      rw [hvs] at ho
      clear hyes hno hvs
      clear hs htk hsm hs2' hz
      obtain ⟨A9, n9, c9, rfl⟩ := own_open ho.out
      go_wp2_with fail
      refine (l4Cost_any n _ _ _ _ _ _ xs ys ss s z _ n1 n2 ((HX0.out.below hbr.out).more hbr.out.size) ((HY0.out.below hbr.out).more hbr.out.size) (HS0.out.on hbr.out) HXI.out HYI.out HSI.out (by omega) HS2'.out HZ.out).mono ?_
      rintro e w3 ⟨rfl, hb3⟩
      have BR3 := Lib.hid (below_on hbr.out hb3.out)
      have O3 := Lib.hid (own_under ho.out hb3.out)
      have RW3 : Hid (∀ i s, L[i]? = some s → w3.cell? ⟨g, i, none⟩ = some (.string s)) := fun i s h => (grown_of_below hb3.out).cell (hrw.out i s h) (by simp)
      have hg3 : g < w3.heap.size := Nat.lt_of_lt_of_le hgr hb3.out.size
      have hsz3 : G0 ≤ w3.heap.size := by omega
      clear hb3 k0 k1 k2 k3 hldr ho hrw KR
      by_cases hzl : z = 0
      · subst hzl
        have HT := Lib.hid (HYES.out rfl)
        clear HYES HNO HZ
        go_wp2_with (first | (at_builtin; refine wpList_append_own_at _ rfl _ _ 27 rfl G0 9 i0 (.string ByteArray.empty) 1 16 Try.underlying27 ZI.out Z0.out Z1.out Z2.out rfl (by decide) _ _ _ rfl (World.ownsRow.alloc O3.out _) ⟨w3.heap.size, 0, none⟩ 1 1 [.string s] rfl rfl (World.news_of_block (Blk.new w3 9 #[.string s])) (by simp [Value.oneCell']) (by unfold maxLen; omega) (by omega) (by simp; omega) ?_; intro v' w5 hown' hgrow _ hat) | fail)
        have HO := Lib.hid hown'
        have HG := Lib.hid hgrow
        have HA := Lib.hid hat
        clear hown' hgrow hat
        go_wp2_with fail
        have hob : ∀ o, (Value.slice A9 n9 c9).ownBlock = some o → G0 ≤ o := fun o h => (O3.out.lt o h).1
        go_roundw
        case rel =>
          refine ⟨q + 1, by omega, by go_num, ?_, ?_, ?_, ?_, ?_⟩
          · show World.ownsRow _ _ _ _ _ _ _
            rw [HT.out, List.map_append, List.length_append]
            exact HO.out
          · have b4 := below_al BR3.out (by have := HL.out; omega) (.cells #[.string s] 9)
            exact b4.grown HG.out b4.size (fun j hj => by have := hob j hj; have := HL.out; omega)
          · intro i u hu
            have hx : (w3.alloc (.cells #[.string s] 9)).cell? ⟨g, i, none⟩ = some (.string u) := by
              rw [World.cell?_alloc_lt]
              · exact RW3.out i u hu
              · exact hg3
            exact (HG.out.cell_far _ (by simp; omega) (by intro e; exact hng.out e.symm)).trans hx
          · have := HG.out.size; simp at this; omega
          · intro e
            rcases HA.out with h | h
            · exact hng.out (h.symm.trans e)
            · rw [h] at e
              have := Option.some.inj e
              simp at this; omega
        case measure => simp [intOf]; omega
      · have HT := Lib.hid (HNO.out hzl)
        clear HYES HNO
        go_wp2_with fail
        go_roundw
        case rel => exact ⟨q + 1, by omega, by go_num, by show World.ownsRow _ _ _ _ _ _ _; rw [HT.out]; exact O3.out, BR3, RW3, hg3, hng⟩
        case measure => simp [intOf]; omega
    · have hqL : q = L.length := by omega
      subst hqL
      go_wp2_with fail
      go_ret2
      have h := ho.out
      rw [List.take_length] at h
      exact ZEnd.good HR2.out (own_base h (Nat.le_of_lt kL)) (below_on B0.out hbr.out)
end Go.Proofs.Ytlfffoglldobeaa
