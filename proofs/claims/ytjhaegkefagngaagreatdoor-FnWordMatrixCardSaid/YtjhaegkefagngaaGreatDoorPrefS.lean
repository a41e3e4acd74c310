/- PrefixCosts, the program's: the costs of all beginnings of a word, collected by a loop over the iterator. Condition: the text is no longer than a length. PrefixCosts, the model's: the costs of all beginnings of a word. Condition: the text is no longer than a length. -/
import Derived.Test.YtjhaegkefagngaaGreatDoorCostM
import Derived.Deep.AppendLies
import Derived.RangeFuncBox
namespace Go.Proofs.YtjhaegkefagngaaGreatDoor
open Go.RowKit Go.Shelf
attribute [local go_sem] Oper.semAt_some
set_option maxHeartbeats 4000000
set_option maxRecDepth 100000
set_option linter.unusedVariables false

theorem wpIn_append_lies {F : Fence} {nn : Nat} {P : Program} (w : World) {o : Oper} {a : Act} {K : Act → World → Prop} {Q : Exit → Act → World → Prop} (s x : Operand) (t : TypeId)
    (ho : o.op = .call { callee := .builtin .append, args := #[s, x], argTypes := #[t, t] })
    (base : Nat) (e : TypeId) (i : TypeInfo) (z : Value) (size bytes : Nat) (ht : P.underlying t = some (.slice e)) (hi : P.info? e = some i) (hz : i.zero = some z)
    (hsize : i.size = size) (hby : i.bytes = bytes) (hzs : z.cells.size = size) (hsz : 0 < size)
    (v : Value) (n : Nat) (xs : List Value) (hs : a.eval s = v) (hown : w.ownsRow base e size v n xs)
    (ad : Addr) (m c : Nat) (news : List Value) (hx : a.eval x = .slice (some ad) m c) (hl : news.length = m * size) (hnews : ∀ j u, news[j]? = some u → w.cell? (ad.add j) = some u) (h1 : ∀ u ∈ news, u.oneCell' = true)
    (hm : 0 < m) (h63 : n + m ≤ maxLen) (hbytes : (n + m) * bytes ≤ 140737488355328) (hbase : base ≤ w.heap.size) (H : Nat) (hH : w.heap.size = H)
    (h : ∀ g cap w', w'.ownsRow base e size (.slice (some ⟨g, 0, none⟩) (n + m) cap) (n + m) (xs ++ news) → w.grownBy w' v.ownBlock → (v.ownBlock = some g ∨ g = H) → g < w'.heap.size → K (a.put o.dst (.slice (some ⟨g, 0, none⟩) (n + m) cap)) w') : o.wpIn F nn P a w K Q := by
  obtain ⟨g, cap, w', hr, h2, h3, h4, h5⟩ := run_append_lies (P := P) w t o.type base e i z size bytes ht hi hz hsize hby hzs hsz v n xs hown ad m c news hl hnews h1 hm h63 hbytes hbase H hH
  unfold Oper.wpIn
  refine ⟨?_, ?_⟩
  · simp [Oper.about, ho, resolve, Target.leads, Sem.run_pure]
  · rw [Oper.semAt_plain F _ _ (by rw [ho]; intro c hc'; cases hc')]
    simp [execOp, ho, resolve, invoke, builtin, hs, hx, hr, Result.andThen]
    exact h g cap w' h2 h3 h4 h5

section
variable {F : Fence} {nn : Nat} {P : Program} {ops : Array Oper} {Q : Exit → Act → World → Prop} {md : Region.Mode}
theorem wpAnyIn_ind (J : Nat → Array Bool → Act → World → Prop)
    (h : ∀ fuel listed a w, (∀ l' a' w', J fuel l' a' w' → wpAnyIn F nn P md ops Q fuel l' a' w') → J (fuel + 1) listed a w → wpAnyIn F nn P md ops Q (fuel + 1) listed a w)
    (h0 : ∀ l a w, J 0 l a w → False) : ∀ fuel listed a w, J fuel listed a w → wpAnyIn F nn P md ops Q fuel listed a w
  | 0, l, a, w, hJ => (h0 l a w hJ).elim
  | fuel + 1, l, a, w, hJ => h fuel l a w (fun l' a' w' hJ' => wpAnyIn_ind J h h0 fuel l' a' w' hJ') hJ
theorem wpAnyIn_fork {rs : List Nat} {fuel : Nat} {listed : Array Bool} {a : Act} {w : World} (hr : Region.ready md ops listed = rs) (hne : rs ≠ [])
    (h : ∀ i ∈ rs, ∃ o, ops[i]? = some o ∧ ∀ K' : Act → World → Prop, Hid (∀ a w, wpAnyIn F nn P md ops Q fuel (listed.setIfInBounds i true) a w → K' a w) → if Region.wanted o (yielded ops a.tmps) = true then Oper.wpIn F nn P o a w K' Q else (∀ f, o.about P w a.eval = some f → F.fn f) ∧ K' (a.put o.dst undef) w) :
    wpAnyIn F nn P md ops Q (fuel + 1) listed a w := by
  refine wpAnyIn_all hr hne (fun i hi => ?_)
  obtain ⟨o, ho, hk⟩ := h i hi
  exact wpOpIn_step ho (fun K' hK => hk K' hK)
end
theorem news_one {w : World} {g : Nat} {z : Value} (h : w.cell? ⟨g, 0, none⟩ = some z) : ∀ (j : Nat) u, [z][j]? = some u → w.cell? ((⟨g, 0, none⟩ : Addr).add j) = some u := by
  intro j u hu
  have hadd : (⟨g, 0, none⟩ : Addr).add j = ⟨g, j, none⟩ := by unfold Addr.add; split <;> simp_all
  rw [hadd]
  cases j with
  | zero => simp at hu; rw [← hu]; exact h
  | succ j => simp at hu
theorem hne_row {v : Value} {T : Nat} (h : ∀ j, v.ownBlock = some j → T < j) : some T ≠ v.ownBlock := fun e => by have := h T e.symm; omega
def LEnd (r : Option (List Int)) (w : World) (e : Ending) (w' : World) : Prop :=
  ∃ x, e = .returned (.tuple #[x, .bool r.isSome]) ∧ w'.ownsRow w.heap.size 3 1 x (r.getD []).length ((r.getD []).map (Value.int .i64)) ∧ Below w.heap.size w w' ∧ (r.getD []).length ≤ 1001
theorem LEnd.bad {r : Option (List Int)} {w w' : World} {x : Value} (hr : r = none) (ho : w'.ownsRow w.heap.size 3 1 x 0 []) (hb : Below w.heap.size w w') : LEnd r w (.returned (.tuple #[x, .bool false])) w' := by
  subst hr; exact ⟨x, rfl, ho, hb, Nat.zero_le _⟩
theorem LEnd.good {r : Option (List Int)} {w w' : World} {x : Value} {vs : List Int} (hr : r = some vs) (ho : w'.ownsRow w.heap.size 3 1 x vs.length (vs.map (Value.int .i64))) (hb : Below w.heap.size w w') (hl : vs.length ≤ 1001) : LEnd r w (.returned (.tuple #[x, .bool true])) w' := by
  subst hr; exact ⟨x, rfl, ho, hb, hl⟩
/-- The costs of all beginnings. -/
def begs (n : Nat) (xs ys : List Int) (ss : List StepD) (l : List UInt8) (k : Nat) : List Int := (List.range k).map (fun i => costF n xs ys ss (l.take i))
def leasts (ys : List Int) (vs : List VF) : List Int := vs.map (fun v => leastV ys v 4)
theorem leasts_snoc (ys : List Int) (vs : List VF) (v : VF) : leasts ys (vs ++ [v]) = leasts ys vs ++ [leastV ys v 4] := by unfold leasts; simp
theorem leasts_len (ys : List Int) (vs : List VF) : (leasts ys vs).length = vs.length := by unfold leasts; simp
theorem leasts_alongs (n : Nat) (xs ys : List Int) (ss : List StepD) (l : List UInt8) (k : Nat) : leasts ys (alongs n ss xs l k) = begs n xs ys ss l k := by
  unfold leasts alongs begs costF; simp
theorem begs_len (n : Nat) (xs ys : List Int) (ss : List StepD) (l : List UInt8) (k : Nat) : (begs n xs ys ss l k).length = k := by unfold begs; simp
def prefR (m : Int) (xs ys : List Int) (ss : List StepD) (l : ByteArray) : Option (List Int) := if autoOk m xs ys ss = true ∧ wordOk l = true then some (begs m.toNat xs ys ss l.data.toList (l.size + 1)) else none
theorem prefR_some {n : Nat} {xs ys : List Int} {ss : List StepD} {l : ByteArray} (h : autoOk n xs ys ss = true) (hl : wordOk l = true) : prefR n xs ys ss l = some (begs n xs ys ss l.data.toList (l.size + 1)) := by
  unfold prefR; rw [if_pos ⟨h, hl⟩]; rfl
theorem prefR_none {m : Int} {xs ys : List Int} {ss : List StepD} {l : ByteArray} (h : (autoOk m xs ys ss && wordOk l) = false) : prefR m xs ys ss l = none := by
  unfold prefR; rw [if_neg (by rintro ⟨h1, h2⟩; rw [h1, h2] at h; cases h)]

/-- A variable that holds a slice of the call's own; none of X is its block. -/
def ListAt (W : World) (T base : Nat) (X : List Nat) (zs : List Int) : Prop := ∃ v, Boxed W T 23 v ∧ W.ownsRow base 3 1 v zs.length (zs.map (Value.int .i64)) ∧ ∀ j ∈ X, v.ownBlock ≠ some j
theorem ListAt.turn {A D : World} {T base : Nat} {X : List Nat} {zs : List Int} {row : Option Nat} (h : ListAt A T base X zs) (hg : A.grownBy D row) (hT : some T ≠ row) (hr : ∀ r, row = some r → r ∈ X ∨ r < base) : ListAt D T base X zs := by
  obtain ⟨v, h1, h2, h3⟩ := h
  refine ⟨v, h1.kept hg hT, h2.kept hg ?_, h3⟩
  rcases ho : v.ownBlock with _ | j
  · exact Or.inl rfl
  · right
    intro e
    rcases hr j e.symm with h | h
    · exact h3 j h ho
    · have := (h2.lt j ho).1; omega
theorem ListAt.new {A D : World} {T base : Nat} {X : List Nat} {zs : List Int} (h : ListAt A T base X zs) (hg : A.grownBy D none) {j : Nat} (hj : A.heap.size ≤ j) : ListAt D T base (j :: X) zs := by
  obtain ⟨v, h1, h2, h3⟩ := h
  refine ⟨v, h1.kept hg (by simp), h2.kept hg ?_, fun i hi => ?_⟩
  · rcases ho : v.ownBlock with _ | j
    · exact Or.inl rfl
    · exact Or.inr (by simp)
  · rcases List.mem_cons.1 hi with rfl | hi
    · intro e
      have := (h2.lt _ e).2; omega
    · exact h3 i hi

theorem iPrefix_any (m : Int) (A1 A2 A3 : Option Addr) (c1 c2 c3 : Nat) (xs ys : List Int) (ss : List StepD) (l : ByteArray) (hll : l.size ≤ maxLen) (w : World) (hx : Ints w w.heap.size A1 xs) (hy : Ints w w.heap.size A2 ys) (hs : SRow w w.heap.size A3 ss) :
    Calls Tryz.prog 10 #[.agg #[.int .i64 m, .slice A1 xs.length c1, .slice A2 ys.length c2, .slice A3 ss.length c3], .string l] w fun e w' => LEnd (prefR m xs ys ss l) w e w' := by
  have hl9 : l.size ≤ 9223372036854775807 := by unfold maxLen at hll; omega
  have HX0 := Lib.hid (ints_al hx (.cells #[.int .i64 m, .slice A1 xs.length c1, .slice A2 ys.length c2, .slice A3 ss.length c3] 26))
  have HY0 := Lib.hid (ints_al hy (.cells #[.int .i64 m, .slice A1 xs.length c1, .slice A2 ys.length c2, .slice A3 ss.length c3] 26))
  have HS := Lib.hid (hs.al (.cells #[.int .i64 m, .slice A1 xs.length c1, .slice A2 ys.length c2, .slice A3 ss.length c3] 26))
  clear hx hy hs
  obtain ⟨b, hb⟩ : ∃ b, (autoOk m xs ys ss && wordOk l) = b := ⟨_, rfl⟩
  cases b
  · have HOK := Lib.hid hb
    have HR := Lib.hid (prefR_none hb)
    clear hb
    go_enter Tryz.func10, Tryz.ntmps10
    go_wp2_with fail
    refine (readerOf_no _ _ _ _ _ _ _ _ _ _ _ _ hl9 HX0.out HY0.out HS.out HOK.out).mono ?_
    rintro e w1 ⟨rfl, hb1⟩
    have B1 := Lib.hid (below_on (below_a1 w _) hb1.out)
    clear hb1 HX0 HY0 HS
    go_wp2_with fail
    go_ret2
    exact LEnd.bad HR.out (World.ownsRow_nil _ _ _ _) (below_al B1.out (Nat.le_refl _) _)
  · rw [Bool.and_eq_true] at hb
    obtain ⟨hok, hwk⟩ := hb
    obtain ⟨n, rfl, n1, n2, hxi, _, _, hsi⟩ := auto_in hok
    obtain ⟨hl1, hl2⟩ := wordOk_in hwk
    have HR := Lib.hid (prefR_some hok hwk)
    have HOK := Lib.hid hok
    have HWK := Lib.hid hwk
    have HSI := Lib.hid hsi
    have HXI := Lib.hid hxi
    have HL2 := Lib.hid hl2
    clear hok hwk hsi hl2 hxi
    refine (callsIn_wide (n := 4)).1 ?_
    refine callsIn_of_wp_marks Tryz.func10 rfl trivial ?_ rfl
    simp only [Tryz.ntmps10, List.size_toArray, List.length_cons, List.length_nil, Nat.reduceAdd, Nat.reduceSub, Array.replicate_succ, Array.replicate_zero, List.push_toArray, List.append_toArray, List.nil_append, List.cons_append]
    gi_wp2_with fail
    refine ⟨trivial, ?_⟩
    refine (callsIn_wide.2 (readerOf_ok _ _ _ _ _ _ _ _ _ _ _ _ hl9 HX0.out HY0.out HS.out HOK.out HWK.out)).mono ?_
    rintro e w1 ⟨M, rfl, hM, hmap, hb1⟩
    have B1 := Lib.hid (below_on (below_a1 w _) hb1.out)
    have hMw := hmap.out.lt
    have MM := Lib.hid hmap.out
    clear hb1 HX0 HY0 HS hM hmap
    gi_wp2_with fail
    refine ⟨trivial, ?_⟩
    refine (callsIn_wide.2 (along_any n M _ _ _ _ _ _ _ _ l _)).mono ?_
    rintro e W0 ⟨rfl, hW0⟩
    simp only [World.size_alloc] at hW0 ⊢
    have mX : Hid (Blk W0 w1.heap.size 52 #[.int .i64 n, .bool (hasB xs 0), .bool (hasB xs 1), .bool (hasB xs 2), .bool (hasB xs 3), .bool (hasB ys 0), .bool (hasB ys 1), .bool (hasB ys 2), .bool (hasB ys 3), .map (some M)]) := by rw [hW0]; exact (((Blk.new w1 _ _).alloc _).alloc _).alloc _
    have mT : Hid (Boxed W0 (w1.heap.size + 1) 23 (.slice none 0 0)) := by
      rw [hW0]
      have h := ((Boxed.new (w1.alloc (.cells #[.int .i64 n, .bool (hasB xs 0), .bool (hasB xs 1), .bool (hasB xs 2), .bool (hasB xs 3), .bool (hasB ys 0), .bool (hasB ys 1), .bool (hasB ys 2), .bool (hasB ys 3), .map (some M)] 52)) 23 (.slice none 0 0)).alloc (.cells #[.int .i64 n, .bool (hasB xs 0), .bool (hasB xs 1), .bool (hasB xs 2), .bool (hasB xs 3), .bool (hasB ys 0), .bool (hasB ys 1), .bool (hasB ys 2), .bool (hasB ys 3), .map (some M)] 52)).alloc (.cells #[.string l] 9)
      rw [World.size_alloc] at h
      exact h
    have mB : Hid (Blk W0 (w1.heap.size + 1 + 1) 52 #[.int .i64 n, .bool (hasB xs 0), .bool (hasB xs 1), .bool (hasB xs 2), .bool (hasB xs 3), .bool (hasB ys 0), .bool (hasB ys 1), .bool (hasB ys 2), .bool (hasB ys 3), .map (some M)]) := by rw [hW0]; exact (blk_new (by simp)).alloc _
    have mW : Hid (Blk W0 (w1.heap.size + 1 + 1 + 1) 9 #[.string l]) := by rw [hW0]; exact blk_new (by simp)
    have hB1 : Below w1.heap.size w1 W0 := by
      rw [hW0]; exact below_al (below_a3 w1 _ _ _) (Nat.le_refl _) _
    have hB0 : Hid (Below w.heap.size w W0) := below_on B1.out hB1
    have MM0 := Lib.hid (MM.out.below hB1)
    have hsz : W0.heap.size = w1.heap.size + 4 := by rw [hW0]; simp
    have hw1 : w.heap.size ≤ w1.heap.size := B1.out.size
    clear MM hW0 hB1 B1
    obtain ⟨X, hX⟩ : ∃ T, T = w1.heap.size := ⟨_, rfl⟩
    obtain ⟨T, hT⟩ : ∃ T, T = w1.heap.size + 1 := ⟨_, rfl⟩
    obtain ⟨mb, hmb⟩ : ∃ T, T = w1.heap.size + 1 + 1 := ⟨_, rfl⟩
    obtain ⟨wb, hwb⟩ : ∃ T, T = w1.heap.size + 1 + 1 + 1 := ⟨_, rfl⟩
    rw [← hT] at mT
    rw [← hmb] at mB
    rw [← hwb] at mW
    rw [← hX] at mX
    rw [← hwb, ← hmb, ← hT, ← hX]
    have kT0 : w.heap.size ≤ X := by omega
    have kT1 : X < T := by omega
    have kT2 : T < mb := by omega
    have kT3 : mb < wb := by omega
    have kT4 : wb < W0.heap.size := by omega
    have kM : M < X := by omega
    have HSEQ := along_seq n M _ mb wb 3 _ _ _ _ _ _ _ _ xs ss l W0 n2 (by omega) HXI.out HSI.out hl1 HL2.out rfl mB.out mW.out MM0.out
    clear hT hmb hwb hX mB mW hsz hw1 hMw
    gi_wp2_with fail
    obtain ⟨i0, hi, hz0, hz1, hz2⟩ := info_parts info_int
    have ZI := Lib.hid hi
    have Z0 := Lib.hid hz0
    have Z1 := Lib.hid hz1
    have Z2 := Lib.hid hz2
    clear hi hz0 hz1 hz2
    refine wpIn_over rfl (by omega) (gf := 60) rfl trivial (enters_of Tryz.func60 (by kernel_rfl) rfl) HSEQ
      (fun j hj => by rcases hj with rfl | rfl | rfl <;> omega) (Below.refl _ _) (fun _ => rfl)
      (fun J pre W => (∀ j ∈ J, W0.heap.size ≤ j) ∧ Blk W X 52 #[.int .i64 n, .bool (hasB xs 0), .bool (hasB xs 1), .bool (hasB xs 2), .bool (hasB xs 3), .bool (hasB ys 0), .bool (hasB ys 1), .bool (hasB ys 2), .bool (hasB ys 3), .map (some M)] ∧ ListAt W T (W0.heap.size + 2) J (leasts ys pre) ∧ Below w.heap.size w W ∧ W0.heap.size ≤ W.heap.size)
      (fun J s A D row h hg hr => by
        obtain ⟨h1, h2, h3, h4, h5⟩ := h
        have ne : ∀ k, k < W0.heap.size → some k ≠ row := fun k hk e => by
          rcases hr k e.symm with h | h | h
          · have := h1 k h; omega
          · omega
          · omega
        exact ⟨h1, h2.stay hg (ne _ (by omega)), h3.turn hg (ne _ (by omega)) (fun r e => by
          rcases hr r e with h | h | h
          · exact Or.inl h
          · right; omega
          · right; omega), h4.grown hg h4.size (fun j hj => by
          rcases hr j hj with h | h | h
          · have := h1 j h; omega
          · omega
          · omega), Nat.le_trans h5 hg.size⟩)
      (fun J s A D j h hg hj1 hj2 => by
        obtain ⟨h1, h2, h3, h4, h5⟩ := h
        exact ⟨fun i hi => by
          rcases List.mem_cons.1 hi with rfl | hi
          · omega
          · exact h1 i hi, h2.stay hg (by simp), h3.new hg hj1, h4.grown hg h4.size (fun j hj => by cases hj), Nat.le_trans h5 hg.size⟩)
      ⟨fun j hj => (by cases hj), mX.out, ⟨_, mT.out, World.ownsRow_nil _ _ _ _, fun j hj => by cases hj⟩, hB0.out, Nat.le_refl _⟩
      (fun J pre x a' W => ∃ b, W0.heap.size + 2 ≤ b ∧ Blk W b 73 #[.int .i64 (x 0), .int .i64 (x 1), .int .i64 (x 2), .int .i64 (x 3)] ∧ a' = { tmps := #[.agg #[.int .i64 n, .slice A1 xs.length c1, .slice A2 ys.length c2, .slice A3 ss.length c3], .string l, .pointer (some ⟨w.heap.size, 0, none⟩), undef, .slice none 0 0, .bool false, .pointer (some ⟨X, 0, none⟩), .bool true, .pointer (some ⟨T, 0, none⟩), .pointer (some ⟨b, 0, none⟩), .tuple #[.agg #[.int .i64 n, .bool (hasB xs 0), .bool (hasB xs 1), .bool (hasB xs 2), .bool (hasB xs 3), .bool (hasB ys 0), .bool (hasB ys 1), .bool (hasB ys 2), .bool (hasB ys 3), .map (some M)], .bool true], .agg #[.int .i64 n, .slice A1 xs.length c1, .slice A2 ys.length c2, .slice A3 ss.length c3], .string l, .tuple #[.agg #[.int .i64 n, .bool (hasB xs 0), .bool (hasB xs 1), .bool (hasB xs 2), .bool (hasB xs 3), .bool (hasB ys 0), .bool (hasB ys 1), .bool (hasB ys 2), .bool (hasB ys 3), .map (some M)], .bool true], .agg #[.int .i64 n, .bool (hasB xs 0), .bool (hasB xs 1), .bool (hasB xs 2), .bool (hasB xs 3), .bool (hasB ys 0), .bool (hasB ys 1), .bool (hasB ys 2), .bool (hasB ys 3), .map (some M)], .bool true, .bool true, .bool false, .agg #[.int .i64 n, .bool (hasB xs 0), .bool (hasB xs 1), .bool (hasB xs 2), .bool (hasB xs 3), .bool (hasB ys 0), .bool (hasB ys 1), .bool (hasB ys 2), .bool (hasB ys 3), .map (some M)], .string l, (.func (.func 60) #[] #[.pointer (some ⟨mb, 0, none⟩), .pointer (some ⟨wb, 0, none⟩)]), .agg #[.int .i64 (x 0), .int .i64 (x 1), .int .i64 (x 2), .int .i64 (x 3)], undef, undef, undef, undef, undef, undef, undef, undef], defers := [] } ∧ (∀ j ∈ J, W0.heap.size ≤ j) ∧ Blk W X 52 #[.int .i64 n, .bool (hasB xs 0), .bool (hasB xs 1), .bool (hasB xs 2), .bool (hasB xs 3), .bool (hasB ys 0), .bool (hasB ys 1), .bool (hasB ys 2), .bool (hasB ys 3), .map (some M)] ∧ ListAt W T (W0.heap.size + 2) J (leasts ys pre) ∧ Below w.heap.size w W ∧ W0.heap.size ≤ W.heap.size)
      (fun J pre x a' A D h hg => by
        obtain ⟨b, g1, g2, g3, h1, h2, h3, h4, h5⟩ := h
        exact ⟨b, g1, g2.stay hg (fun e => by have := Option.some.inj e; omega), g3, h1, h2.stay hg (fun e => by have := Option.some.inj e; omega), h3.turn hg (fun e => by have := Option.some.inj e; omega) (fun r e => by have := Option.some.inj e; right; omega), h4.grown hg h4.size (fun j hj => by have := Option.some.inj hj; omega), Nat.le_trans h5 hg.size⟩)
      ?assign ?body ?done
    case assign =>
      rintro q J pre x W K ⟨h1, h2, h3, h4, h5⟩ hXb hsb hlen hK
      unfold vecC
      gi_wp2_with fail
      refine hK _ _ ⟨W.heap.size, by omega, Blk.new _ _ _, rfl, h1, h2.alloc _, h3.turn (World.grownBy_alloc _ _ none) (by simp) (fun r e => by cases e), below_al h4 (Nat.le_refl _) _, by simp; omega⟩ ⟨by simp, fun j hj => ?_⟩
      refine Below.heap_alloc _ _ _ ?_
      rcases hj with hj | hj | hj | hj
      · exact (hXb j hj).2
      · rcases hj with rfl | rfl | rfl <;> omega
      · omega
      · omega
    case body =>
      rintro q J pre x a' W ⟨b, g1, g2, rfl, h1, h2, h3, h4, h5⟩ hXb hsb hlen
      obtain ⟨v, hv, hrow, hvJ⟩ := h3
      obtain ⟨z, hz⟩ : ∃ z, leastV ys x 4 = z := ⟨_, rfl⟩
      have HZ := Lib.hid hz
      have hlist := leasts_snoc ys pre x
      rw [hz] at hlist
      have HLS := Lib.hid hlist
      have hpl := leasts_len ys pre
      obtain ⟨k, hk⟩ : ∃ k, k = pre.length := ⟨_, rfl⟩
      rw [hpl, ← hk] at hrow
      rw [← hk] at hlen hpl
      have HG2 := Lib.hid g2
      have HG3 := Lib.hid h2
      have HROW := Lib.hid hrow
      have HV := Lib.hid hv
      have H1 := Lib.hid h1
      have H4 := Lib.hid h4
      have HVJ := Lib.hid hvJ
      have HXB := Lib.hid hXb
      have HPL := Lib.hid hpl
      clear hz hlist h1 h4 hvJ hrow hXb hpl hk
      gi_wp2_with fail
      -- BODY
      obtain ⟨c0, c1, c2, c3⟩ := four_cells g2
      have hmo : Tryz.prog.follows .mixedOrders = true := by kernel_rfl
      have hTW : T < W.heap.size := by omega
      have hvT : ∀ j, v.ownBlock = some j → T < j := fun j hj => by have := (HROW.out.lt j hj).1; omega
      have KF : Hid (∀ w', Below W.heap.size W w' → (w'.cell? ⟨T, 0, none⟩ = some v ∧ w'.cell? ⟨b, 0, none⟩ = some (.int .i64 (x 0)) ∧ w'.cell? ⟨b, 1, none⟩ = some (.int .i64 (x 1)) ∧ w'.cell? ⟨b, 2, none⟩ = some (.int .i64 (x 2)) ∧ w'.cell? ⟨b, 3, none⟩ = some (.int .i64 (x 3)) ∧ w'.cell? ⟨X, 5, none⟩ = some (.bool (hasB ys 0)) ∧ w'.cell? ⟨X, 6, none⟩ = some (.bool (hasB ys 1)) ∧ w'.cell? ⟨X, 7, none⟩ = some (.bool (hasB ys 2)) ∧ w'.cell? ⟨X, 8, none⟩ = some (.bool (hasB ys 3)))) := fun w' h => by
        have b' := blk_b g2 h
        have m' := blk_b h2 h
        exact ⟨(Boxed.kept hv (grown_of_below h) (by simp)).cell, b'.cell 0, b'.cell 1, b'.cell 2, b'.cell 3, m'.cell 5, m'.cell 6, m'.cell 7, m'.cell 8⟩
      clear c0 c1 c2 c3 g2 hv
      refine wpIn_region_any hmo ?_
      try (change wpAnyIn _ _ _ _ _ _ _ _ _ (World.drew _))
      refine wpAnyIn_ind (fun fuel listed a w' => ∃ (b0 b1 b2 b3 b4 b5 : Bool) (g : Nat), listed = #[b0, b1, b2, b3, b4, b5, false, false] ∧ a = { tmps := #[.agg #[.int .i64 n, .slice A1 xs.length c1, .slice A2 ys.length c2, .slice A3 ss.length c3], .string l, .pointer (some ⟨w.heap.size, 0, none⟩), undef, .slice none 0 0, .bool false, .pointer (some ⟨X, 0, none⟩), .bool true, .pointer (some ⟨T, 0, none⟩), .pointer (some ⟨b, 0, none⟩), .tuple #[.agg #[.int .i64 n, .bool (hasB xs 0), .bool (hasB xs 1), .bool (hasB xs 2), .bool (hasB xs 3), .bool (hasB ys 0), .bool (hasB ys 1), .bool (hasB ys 2), .bool (hasB ys 3), .map (some M)], .bool true], .agg #[.int .i64 n, .slice A1 xs.length c1, .slice A2 ys.length c2, .slice A3 ss.length c3], .string l, .tuple #[.agg #[.int .i64 n, .bool (hasB xs 0), .bool (hasB xs 1), .bool (hasB xs 2), .bool (hasB xs 3), .bool (hasB ys 0), .bool (hasB ys 1), .bool (hasB ys 2), .bool (hasB ys 3), .map (some M)], .bool true], .agg #[.int .i64 n, .bool (hasB xs 0), .bool (hasB xs 1), .bool (hasB xs 2), .bool (hasB xs 3), .bool (hasB ys 0), .bool (hasB ys 1), .bool (hasB ys 2), .bool (hasB ys 3), .map (some M)], .bool true, .bool true, .bool false, .agg #[.int .i64 n, .bool (hasB xs 0), .bool (hasB xs 1), .bool (hasB xs 2), .bool (hasB xs 3), .bool (hasB ys 0), .bool (hasB ys 1), .bool (hasB ys 2), .bool (hasB ys 3), .map (some M)], .string l, (.func (.func 60) #[] #[.pointer (some ⟨mb, 0, none⟩), .pointer (some ⟨wb, 0, none⟩)]), .agg #[.int .i64 (x 0), .int .i64 (x 1), .int .i64 (x 2), .int .i64 (x 3)], cond b0 (v) undef, cond b1 (.agg #[.int .i64 (x 0), .int .i64 (x 1), .int .i64 (x 2), .int .i64 (x 3)]) undef, cond b2 (.pointer (some ⟨X, 5, none⟩)) undef, cond b3 (.agg #[.bool (hasB ys 0), .bool (hasB ys 1), .bool (hasB ys 2), .bool (hasB ys 3)]) undef, cond b4 (.int .i64 z) undef, cond b5 (.slice (some ⟨g, 0, none⟩) 1 1) undef, undef, undef], defers := [] } ∧ fuel = 2 + (if b0 then 0 else 1) + (if b1 then 0 else 1) + (if b2 then 0 else 1) + (if b3 then 0 else 1) + (if b4 then 0 else 1) + (if b5 then 0 else 1) ∧ ((!b3 || b2) && (!b4 || (b1 && b3)) && (!b5 || b4)) = true ∧ Hid (Below W.heap.size W w') ∧ (b5 = true → w'.cell? ⟨g, 0, none⟩ = some (.int .i64 z))) ?_ ?_ _ _ _ _ ⟨false, false, false, false, false, false, 0, rfl, rfl, rfl, by decide, (Below.refl _ _).drew, fun e => by cases e⟩
      rotate_left
      · rintro l a w' ⟨b0, b1, b2, b3, b4, b5, g, _, _, hf, _⟩
        omega
      rintro fuel listed a w5 ih ⟨b0, b1, b2, b3, b4, b5, g, rfl, rfl, hfu, hbs, HB, hgz⟩
      have HIH := Lib.hid ih
      obtain ⟨t0, c0, c1, c2, c3, a5, a6, a7, a8⟩ := KF.out _ HB.out
      clear ih
      cases b0 <;> cases b1 <;> cases b2 <;> cases b3 <;> cases b4 <;> cases b5
      · simp only [cond_false]
        refine wpAnyIn_fork (rs := [0, 1, 2]) (by kernel_rfl) (by decide) ?_
        intro i hi
        simp only [List.mem_cons, List.not_mem_nil, or_false] at hi
        rcases hi with rfl | rfl | rfl
        · refine ⟨_, rfl, fun K1 hK1 => ?_⟩
          go_simp
          exact hK1.out _ _ (HIH.out _ _ _ ⟨true, false, false, false, false, false, g, rfl, rfl, by simp at hfu ⊢; omega, by decide, HB, hgz⟩)
        · refine ⟨_, rfl, fun K1 hK1 => ?_⟩
          go_simp
          exact hK1.out _ _ (HIH.out _ _ _ ⟨false, true, false, false, false, false, g, rfl, rfl, by simp at hfu ⊢; omega, by decide, HB, hgz⟩)
        · refine ⟨_, rfl, fun K1 hK1 => ?_⟩
          go_simp
          exact hK1.out _ _ (HIH.out _ _ _ ⟨false, false, true, false, false, false, g, rfl, rfl, by simp at hfu ⊢; omega, by decide, HB, hgz⟩)
      · exact absurd hbs (by decide)
      · exact absurd hbs (by decide)
      · exact absurd hbs (by decide)
      · exact absurd hbs (by decide)
      · exact absurd hbs (by decide)
      · exact absurd hbs (by decide)
      · exact absurd hbs (by decide)
      · simp only [cond_true, cond_false]
        refine wpAnyIn_fork (rs := [0, 1, 3]) (by kernel_rfl) (by decide) ?_
        intro i hi
        simp only [List.mem_cons, List.not_mem_nil, or_false] at hi
        rcases hi with rfl | rfl | rfl
        · refine ⟨_, rfl, fun K1 hK1 => ?_⟩
          go_simp
          exact hK1.out _ _ (HIH.out _ _ _ ⟨true, false, true, false, false, false, g, rfl, rfl, by simp at hfu ⊢; omega, by decide, HB, hgz⟩)
        · refine ⟨_, rfl, fun K1 hK1 => ?_⟩
          go_simp
          exact hK1.out _ _ (HIH.out _ _ _ ⟨false, true, true, false, false, false, g, rfl, rfl, by simp at hfu ⊢; omega, by decide, HB, hgz⟩)
        · refine ⟨_, rfl, fun K1 hK1 => ?_⟩
          go_simp
          exact hK1.out _ _ (HIH.out _ _ _ ⟨false, false, true, true, false, false, g, rfl, rfl, by simp at hfu ⊢; omega, by decide, HB, hgz⟩)
      · exact absurd hbs (by decide)
      · exact absurd hbs (by decide)
      · exact absurd hbs (by decide)
      · simp only [cond_true, cond_false]
        refine wpAnyIn_fork (rs := [0, 1]) (by kernel_rfl) (by decide) ?_
        intro i hi
        simp only [List.mem_cons, List.not_mem_nil, or_false] at hi
        rcases hi with rfl | rfl
        · refine ⟨_, rfl, fun K1 hK1 => ?_⟩
          go_simp
          exact hK1.out _ _ (HIH.out _ _ _ ⟨true, false, true, true, false, false, g, rfl, rfl, by simp at hfu ⊢; omega, by decide, HB, hgz⟩)
        · refine ⟨_, rfl, fun K1 hK1 => ?_⟩
          go_simp
          exact hK1.out _ _ (HIH.out _ _ _ ⟨false, true, true, true, false, false, g, rfl, rfl, by simp at hfu ⊢; omega, by decide, HB, hgz⟩)
      · exact absurd hbs (by decide)
      · exact absurd hbs (by decide)
      · exact absurd hbs (by decide)
      · simp only [cond_true, cond_false]
        refine wpAnyIn_fork (rs := [0, 2]) (by kernel_rfl) (by decide) ?_
        intro i hi
        simp only [List.mem_cons, List.not_mem_nil, or_false] at hi
        rcases hi with rfl | rfl
        · refine ⟨_, rfl, fun K1 hK1 => ?_⟩
          go_simp
          exact hK1.out _ _ (HIH.out _ _ _ ⟨true, true, false, false, false, false, g, rfl, rfl, by simp at hfu ⊢; omega, by decide, HB, hgz⟩)
        · refine ⟨_, rfl, fun K1 hK1 => ?_⟩
          go_simp
          exact hK1.out _ _ (HIH.out _ _ _ ⟨false, true, true, false, false, false, g, rfl, rfl, by simp at hfu ⊢; omega, by decide, HB, hgz⟩)
      · exact absurd hbs (by decide)
      · exact absurd hbs (by decide)
      · exact absurd hbs (by decide)
      · exact absurd hbs (by decide)
      · exact absurd hbs (by decide)
      · exact absurd hbs (by decide)
      · exact absurd hbs (by decide)
      · simp only [cond_true, cond_false]
        refine wpAnyIn_fork (rs := [0, 3]) (by kernel_rfl) (by decide) ?_
        intro i hi
        simp only [List.mem_cons, List.not_mem_nil, or_false] at hi
        rcases hi with rfl | rfl
        · refine ⟨_, rfl, fun K1 hK1 => ?_⟩
          go_simp
          exact hK1.out _ _ (HIH.out _ _ _ ⟨true, true, true, false, false, false, g, rfl, rfl, by simp at hfu ⊢; omega, by decide, HB, hgz⟩)
        · refine ⟨_, rfl, fun K1 hK1 => ?_⟩
          go_simp
          exact hK1.out _ _ (HIH.out _ _ _ ⟨false, true, true, true, false, false, g, rfl, rfl, by simp at hfu ⊢; omega, by decide, HB, hgz⟩)
      · exact absurd hbs (by decide)
      · exact absurd hbs (by decide)
      · exact absurd hbs (by decide)
      · simp only [cond_true, cond_false]
        refine wpAnyIn_fork (rs := [0, 4]) (by kernel_rfl) (by decide) ?_
        intro i hi
        simp only [List.mem_cons, List.not_mem_nil, or_false] at hi
        rcases hi with rfl | rfl
        · refine ⟨_, rfl, fun K1 hK1 => ?_⟩
          go_simp
          exact hK1.out _ _ (HIH.out _ _ _ ⟨true, true, true, true, false, false, g, rfl, rfl, by simp at hfu ⊢; omega, by decide, HB, hgz⟩)
        · refine ⟨_, rfl, fun K1 hK1 => ?_⟩
          go_simp
          refine ⟨trivial, ?_⟩
          refine (CallsIn.inRound q (callsIn_wide.2 (leastIn_any ys x _))).mono ?_
          rintro e W1 ⟨rfl, hb1⟩
          rw [HZ.out]
          exact hK1.out _ _ (HIH.out _ _ _ ⟨false, true, true, true, true, false, g, rfl, rfl, by simp at hfu ⊢; omega, by decide, below_on HB.out hb1, fun e => by cases e⟩)
      · exact absurd hbs (by decide)
      · simp only [cond_true, cond_false]
        refine wpAnyIn_fork (rs := [0, 5]) (by kernel_rfl) (by decide) ?_
        intro i hi
        simp only [List.mem_cons, List.not_mem_nil, or_false] at hi
        rcases hi with rfl | rfl
        · refine ⟨_, rfl, fun K1 hK1 => ?_⟩
          go_simp
          exact hK1.out _ _ (HIH.out _ _ _ ⟨true, true, true, true, true, false, g, rfl, rfl, by simp at hfu ⊢; omega, by decide, HB, hgz⟩)
        · refine ⟨_, rfl, fun K1 hK1 => ?_⟩
          go_simp
          exact hK1.out _ _ (HIH.out _ _ _ ⟨false, true, true, true, true, true, w5.heap.size, rfl, rfl, by simp at hfu ⊢; omega, by decide, below_al HB.out (Nat.le_refl _) _, fun _ => (Blk.new _ _ _).cell 0⟩)
      · simp only [cond_true, cond_false]
        refine wpAnyIn_fork (rs := [0]) (by kernel_rfl) (by decide) ?_
        intro i hi
        simp only [List.mem_cons, List.not_mem_nil, or_false] at hi
        subst hi
        · refine ⟨_, rfl, fun K1 hK1 => ?_⟩
          go_simp
          exact hK1.out _ _ (HIH.out _ _ _ ⟨true, true, true, true, true, true, g, rfl, rfl, by simp at hfu ⊢; omega, by decide, HB, hgz⟩)
      · simp only [cond_true, cond_false]
        refine wpAnyIn_fork (rs := [1, 2]) (by kernel_rfl) (by decide) ?_
        intro i hi
        simp only [List.mem_cons, List.not_mem_nil, or_false] at hi
        rcases hi with rfl | rfl
        · refine ⟨_, rfl, fun K1 hK1 => ?_⟩
          go_simp
          exact hK1.out _ _ (HIH.out _ _ _ ⟨true, true, false, false, false, false, g, rfl, rfl, by simp at hfu ⊢; omega, by decide, HB, hgz⟩)
        · refine ⟨_, rfl, fun K1 hK1 => ?_⟩
          go_simp
          exact hK1.out _ _ (HIH.out _ _ _ ⟨true, false, true, false, false, false, g, rfl, rfl, by simp at hfu ⊢; omega, by decide, HB, hgz⟩)
      · exact absurd hbs (by decide)
      · exact absurd hbs (by decide)
      · exact absurd hbs (by decide)
      · exact absurd hbs (by decide)
      · exact absurd hbs (by decide)
      · exact absurd hbs (by decide)
      · exact absurd hbs (by decide)
      · simp only [cond_true, cond_false]
        refine wpAnyIn_fork (rs := [1, 3]) (by kernel_rfl) (by decide) ?_
        intro i hi
        simp only [List.mem_cons, List.not_mem_nil, or_false] at hi
        rcases hi with rfl | rfl
        · refine ⟨_, rfl, fun K1 hK1 => ?_⟩
          go_simp
          exact hK1.out _ _ (HIH.out _ _ _ ⟨true, true, true, false, false, false, g, rfl, rfl, by simp at hfu ⊢; omega, by decide, HB, hgz⟩)
        · refine ⟨_, rfl, fun K1 hK1 => ?_⟩
          go_simp
          exact hK1.out _ _ (HIH.out _ _ _ ⟨true, false, true, true, false, false, g, rfl, rfl, by simp at hfu ⊢; omega, by decide, HB, hgz⟩)
      · exact absurd hbs (by decide)
      · exact absurd hbs (by decide)
      · exact absurd hbs (by decide)
      · simp only [cond_true, cond_false]
        refine wpAnyIn_fork (rs := [1]) (by kernel_rfl) (by decide) ?_
        intro i hi
        simp only [List.mem_cons, List.not_mem_nil, or_false] at hi
        subst hi
        · refine ⟨_, rfl, fun K1 hK1 => ?_⟩
          go_simp
          exact hK1.out _ _ (HIH.out _ _ _ ⟨true, true, true, true, false, false, g, rfl, rfl, by simp at hfu ⊢; omega, by decide, HB, hgz⟩)
      · exact absurd hbs (by decide)
      · exact absurd hbs (by decide)
      · exact absurd hbs (by decide)
      · simp only [cond_true, cond_false]
        refine wpAnyIn_fork (rs := [2]) (by kernel_rfl) (by decide) ?_
        intro i hi
        simp only [List.mem_cons, List.not_mem_nil, or_false] at hi
        subst hi
        · refine ⟨_, rfl, fun K1 hK1 => ?_⟩
          go_simp
          exact hK1.out _ _ (HIH.out _ _ _ ⟨true, true, true, false, false, false, g, rfl, rfl, by simp at hfu ⊢; omega, by decide, HB, hgz⟩)
      · exact absurd hbs (by decide)
      · exact absurd hbs (by decide)
      · exact absurd hbs (by decide)
      · exact absurd hbs (by decide)
      · exact absurd hbs (by decide)
      · exact absurd hbs (by decide)
      · exact absurd hbs (by decide)
      · simp only [cond_true, cond_false]
        refine wpAnyIn_fork (rs := [3]) (by kernel_rfl) (by decide) ?_
        intro i hi
        simp only [List.mem_cons, List.not_mem_nil, or_false] at hi
        subst hi
        · refine ⟨_, rfl, fun K1 hK1 => ?_⟩
          go_simp
          exact hK1.out _ _ (HIH.out _ _ _ ⟨true, true, true, true, false, false, g, rfl, rfl, by simp at hfu ⊢; omega, by decide, HB, hgz⟩)
      · exact absurd hbs (by decide)
      · exact absurd hbs (by decide)
      · exact absurd hbs (by decide)
      · simp only [cond_true, cond_false]
        refine wpAnyIn_fork (rs := [4]) (by kernel_rfl) (by decide) ?_
        intro i hi
        simp only [List.mem_cons, List.not_mem_nil, or_false] at hi
        subst hi
        · refine ⟨_, rfl, fun K1 hK1 => ?_⟩
          go_simp
          refine ⟨trivial, ?_⟩
          refine (CallsIn.inRound q (callsIn_wide.2 (leastIn_any ys x _))).mono ?_
          rintro e W1 ⟨rfl, hb1⟩
          rw [HZ.out]
          exact hK1.out _ _ (HIH.out _ _ _ ⟨true, true, true, true, true, false, g, rfl, rfl, by simp at hfu ⊢; omega, by decide, below_on HB.out hb1, fun e => by cases e⟩)
      · exact absurd hbs (by decide)
      · simp only [cond_true, cond_false]
        refine wpAnyIn_fork (rs := [5]) (by kernel_rfl) (by decide) ?_
        intro i hi
        simp only [List.mem_cons, List.not_mem_nil, or_false] at hi
        subst hi
        · refine ⟨_, rfl, fun K1 hK1 => ?_⟩
          go_simp
          exact hK1.out _ _ (HIH.out _ _ _ ⟨true, true, true, true, true, true, w5.heap.size, rfl, rfl, by simp at hfu ⊢; omega, by decide, below_al HB.out (Nat.le_refl _) _, fun _ => (Blk.new _ _ _).cell 0⟩)
      · simp only [cond_true]
        refine wpAnyIn_fork (rs := [6]) (by kernel_rfl) (by decide) ?_
        intro i hi
        simp only [List.mem_cons, List.not_mem_nil, or_false] at hi
        subst hi
        · refine ⟨_, rfl, fun K1 hK1 => ?_⟩
          obtain rfl : fuel = 1 := by simp at hfu; omega
          rw [if_pos (by kernel_rfl)]
          refine wpIn_append_lies _ _ _ 23 rfl (W0.heap.size + 2) 3 i0 (.int .i64 0) 1 8 Tryz.underlying23 ZI.out Z0.out Z1.out Z2.out rfl (by decide) _ _ _ rfl (own_under HROW.out HB.out) ⟨g, 0, none⟩ 1 1 [.int .i64 z] rfl rfl (news_one (hgz rfl)) (by simp [Value.oneCell']) (by omega) (by unfold maxLen; omega) (by omega) (by have := HB.out.size; omega) _ rfl ?_
          intro g' cap' w6 hown' hgrow hat hlt'
          have hV6 := Boxed.kept (Boxed.kept HV.out (grown_of_below HB.out) (by simp)) hgrow (hne_row hvT)
          have hvc2 := hV6.cell
          have hvf2 := hV6.frozen
          have HO6 := Lib.hid hown'
          have HG6 := Lib.hid hgrow
          have HA6 := Lib.hid hat
          have HL6 := Lib.hid hlt'
          have HV6 := Lib.hid hV6
          have HVT := Lib.hid hvT
          clear hown' hgrow hat hlt' hV6 hvT hgz hfu hbs
          refine hK1.out _ _ ?_
          clear hK1
          refine wpAnyIn_fork (rs := [7]) (by kernel_rfl) (by decide) ?_
          intro i hi
          simp only [List.mem_cons, List.not_mem_nil, or_false] at hi
          subst hi
          refine ⟨_, rfl, fun K2 hK2 => ?_⟩
          go_simp
          refine hK2.out _ _ (wpAnyIn_done (by kernel_rfl) ?_ _)
          clear hK2 hvc2 hvf2 HIH t0 c0 c1 c2 c3 a5 a6 a7 a8
          gi_wp2_with fail
          have hg7 : w6.grownBy (w6.setCell ⟨T, 0, none⟩ (.slice (some ⟨g', 0, none⟩) (k + 1) cap')) (some T) := grow_set w6 T 0 _
          have hbk : ∀ j, j < W.heap.size → j ≠ T → (∀ o, v.ownBlock = some o → j ≠ o) → (w6.setCell ⟨T, 0, none⟩ (.slice (some ⟨g', 0, none⟩) (k + 1) cap')).heap[j]? = W.heap[j]? := fun j hj hjT hjo => by
            have e1 := HB.out.block j hj
            have e2 := HG6.out.block j (by have := HB.out.size; omega) (fun e => hjo j e.symm rfl)
            have e3 := hg7.block j (by have := HB.out.size; have := HG6.out.size; omega) (fun e => hjT (Option.some.inj e))
            exact e3.trans (e2.trans e1)
          have hsz7 : W.heap.size ≤ (w6.setCell ⟨T, 0, none⟩ (.slice (some ⟨g', 0, none⟩) (k + 1) cap')).heap.size := by have := HB.out.size; have := HG6.out.size; have := hg7.size; omega
          have hob : ∀ o, v.ownBlock = some o → W0.heap.size + 2 ≤ o := fun o ho => (HROW.out.lt o ho).1
          have hg'lo : W0.heap.size + 2 ≤ g' := (HO6.out.lt g' rfl).1
          refine ⟨⟨hsz7, fun j hj => ?_⟩, H1.out, ?_, ?_, ?_, Nat.le_trans h5 hsz7⟩
          · rcases hj with hj | hj | hj | hj
            · have := HXB.out j hj; exact hbk j this.2 (by omega) (fun o ho e => HVJ.out j hj (by rw [ho, e]))
            · exact hbk j (by rcases hj with rfl | rfl | rfl <;> omega) (by rcases hj with rfl | rfl | rfl <;> omega) (fun o ho => by have := hob o ho; rcases hj with rfl | rfl | rfl <;> omega)
            · exact hbk j (by omega) (by omega) (fun o ho => by have := hob o ho; omega)
            · exact hbk j (by omega) (by omega) (fun o ho => by have := hob o ho; omega)
          · exact (hbk X (by omega) (by omega) (fun o ho => by have := hob o ho; omega)).trans h2
          · refine ⟨_, HV6.out.set _, ?_, ?_⟩
            · refine ownsRow_setCell_other (own_cast HO6.out ?_ ?_) (a := ⟨T, 0, none⟩) ?_ _
              · rw [HLS.out, List.length_append, HPL.out]; rfl
              · rw [HLS.out]; exact int_snoc _ _
              · intro e; have e' : g' = T := Option.some.inj e; omega
            · intro j hj e
              have e' : g' = j := Option.some.inj e
              subst e'
              rcases HA6.out with h | h
              · exact HVJ.out _ hj h
              · have := HXB.out _ hj; have := HB.out.size; omega
          · have b6 := (H4.out.trans (HB.out.mono H4.out.size)).grown HG6.out (by have := H4.out.size; have := HB.out.size; omega) (fun j hj => by have := hob j hj; omega)
            exact b6.grown hg7 b6.size (fun j hj => by have := Option.some.inj hj; omega)
    case done =>
      rintro J vs W hvs ⟨h1, h2, ⟨v, hv, hrow, hvJ⟩, h4, h5⟩ hK
      have hlast : leasts ys vs = begs n xs ys ss l.data.toList (l.size + 1) := by rw [hvs, leasts_alongs]
      rw [hlast] at hrow
      have hvc := hv.cell
      have HROW := Lib.hid hrow
      have HK := Lib.hid hK
      have H4 := Lib.hid h4
      clear hlast hvs h1 h2 hrow hvJ hK h4
      gi_wp2_with fail
      refine ⟨by simp, .inl ⟨_, _, rfl, run_takeDeferred HK.out, ?_⟩⟩
      refine ⟨_, results_2 rfl (Gives.tmp rfl) (Gives.tmp rfl), LEnd.good HR.out ?_ (H4.out.grown (grownBy_putObj' W _ _) H4.out.size (fun j hj => by have := Option.some.inj hj; have := hB0.out.size; omega)) (by rw [begs_len]; omega)⟩
      exact own_base (ownsRow_putObj HROW.out _ HK.out rfl) (by have := hB0.out.size; omega)
end Go.Proofs.YtjhaegkefagngaaGreatDoor
namespace Go.Proofs.YtjhaegkefagngaaGreatDoor
open Go.RowKit
set_option maxHeartbeats 4000000
set_option maxRecDepth 100000
set_option linter.unusedVariables false

theorem extract_list (l : ByteArray) (k : Nat) : (l.extract 0 k).data.toList = l.data.toList.take k := by
  rw [ByteArray.data_extract, Array.toList_extract]
  simp [List.extract]
theorem begs_snoc (n : Nat) (xs ys : List Int) (ss : List StepD) (l : List UInt8) (k : Nat) : begs n xs ys ss l (k + 1) = begs n xs ys ss l k ++ [costF n xs ys ss (l.take k)] := by
  unfold begs
  rw [List.range_succ, List.map_append]; rfl
theorem sPrefix_any (m : Int) (A1 A2 A3 : Option Addr) (c1 c2 c3 : Nat) (xs ys : List Int) (ss : List StepD) (l : ByteArray) (hll : l.size ≤ maxLen) (w : World) (hx : Ints w w.heap.size A1 xs) (hy : Ints w w.heap.size A2 ys) (hs : SRow w w.heap.size A3 ss) :
    Calls Tryz.prog 11 #[.agg #[.int .i64 m, .slice A1 xs.length c1, .slice A2 ys.length c2, .slice A3 ss.length c3], .string l] w fun e w' => LEnd (prefR m xs ys ss l) w e w' := by
  have hl9 : l.size ≤ 9223372036854775807 := by unfold maxLen at hll; omega
  have HX0 := Lib.hid (ints_al hx (.cells #[.int .i64 m, .slice A1 xs.length c1, .slice A2 ys.length c2, .slice A3 ss.length c3] 26))
  have HY0 := Lib.hid (ints_al hy (.cells #[.int .i64 m, .slice A1 xs.length c1, .slice A2 ys.length c2, .slice A3 ss.length c3] 26))
  have HS := Lib.hid (hs.al (.cells #[.int .i64 m, .slice A1 xs.length c1, .slice A2 ys.length c2, .slice A3 ss.length c3] 26))
  have K0 := Lib.hid (Blk.new w 26 #[.int .i64 m, .slice A1 xs.length c1, .slice A2 ys.length c2, .slice A3 ss.length c3])
  have B0 := Lib.hid (below_a1 w (.cells #[.int .i64 m, .slice A1 xs.length c1, .slice A2 ys.length c2, .slice A3 ss.length c3] 26))
  clear hx hy hs
  obtain ⟨b, hb⟩ : ∃ b, (autoOk m xs ys ss && wordOk l) = b := ⟨_, rfl⟩
  have HOK := Lib.hid hb
  obtain ⟨w1, hw1⟩ : ∃ w1, w1 = w.alloc (.cells #[.int .i64 m, .slice A1 xs.length c1, .slice A2 ys.length c2, .slice A3 ss.length c3] 26) := ⟨_, rfl⟩
  have hs1 : w1.heap.size = w.heap.size + 1 := by rw [hw1]; simp
  rw [← hw1] at HX0 HY0 HS K0 B0
  go_enter Tryz.func11, Tryz.ntmps11
  go_wp2_with fail
  rw [← hw1]
  obtain ⟨L, hL⟩ : ∃ L, L = w.heap.size + 1 := ⟨_, rfl⟩
  rw [← hL] at hs1 ⊢
  have L1 : Hid ((w1.alloc (.cells #[] 3)).ownsRow L 3 1 (.slice (some ⟨L, 0, none⟩) 0 0) 0 []) := by
    have h := World.ownsRow_lit (e := 3) (size := 1) w1 #[] 0 (Nat.le_refl _) (Nat.zero_le _) rfl
    rw [hs1] at h
    exact h
  have B1 := Lib.hid (below_a1 w1 (.cells #[] 3))
  have HL := Lib.hid hs1
  have kL : w.heap.size < L := by omega
  clear hw1 hs1 hL
  refine (l4Asked_is _ _ _ _ _ _ _ _ _ _ _ b _ hl9 (ints_al HX0.out _) (ints_al HY0.out _) (HS.out.al _) HOK.out).mono ?_
  rintro e w2 ⟨rfl, hb2⟩
  have L2 := Lib.hid (own_under L1.out hb2.out)
  have B2 := Lib.hid (below_on B1.out hb2.out)
  clear hb2 L1 B1
  cases b
  · have HR := Lib.hid (prefR_none hb)
    clear hb
    go_wp2_with fail
    go_ret2
    exact LEnd.bad HR.out (own_base L2.out (Nat.le_of_lt kL)) (below_on B0.out B2.out)
  · rw [Bool.and_eq_true] at hb
    obtain ⟨hok, hwk⟩ := hb
    obtain ⟨n, rfl, n1, n2, hxi, hyi, _, hsi⟩ := auto_in hok
    obtain ⟨hl1, hl2⟩ := wordOk_in hwk
    have HR := Lib.hid (prefR_some hok hwk)
    have HSI := Lib.hid hsi
    have HXI := Lib.hid hxi
    have HYI := Lib.hid hyi
    have HL2 := Lib.hid hl2
    obtain ⟨i0, hi, hz0, hz1, hz2⟩ := info_parts info_int
    have ZI := Lib.hid hi
    have Z0 := Lib.hid hz0
    have Z1 := Lib.hid hz1
    have Z2 := Lib.hid hz2
    clear hok hwk hsi hl2 hxi hyi hi hz0 hz1 hz2
    have K : Hid (∀ w', Below w1.heap.size w1 w' → (Hid (Below w1.heap.size w1 w') ∧ w'.cell? ⟨w.heap.size, 0, none⟩ = some (.int .i64 n) ∧ w'.cell? ⟨w.heap.size, 1, none⟩ = some (.slice A1 xs.length c1) ∧ w'.cell? ⟨w.heap.size, 2, none⟩ = some (.slice A2 ys.length c2) ∧ w'.cell? ⟨w.heap.size, 3, none⟩ = some (.slice A3 ss.length c3))) := fun w' h => by
      have a := K0.out.below h (Blk.lt K0.out)
      exact ⟨h, a.cell 0, a.cell 1, a.cell 2, a.cell 3⟩
    have hls : wrap64 ((l.size : Int) + 1) = ((l.size + 1 : Nat) : Int) := by rw [show ((l.size : Int) + 1) = ((l.size + 1 : Nat) : Int) by omega]; exact w64_nat (by omega)
    go_wp2_with fail
    go_loopw [6, 17] (fun v i wr => ∃ (k cap : Nat) (A : Option Addr), k ≤ l.size + 1 ∧ v = .slice A k cap ∧ i = .int .i64 k ∧ Hid (wr.ownsRow L 3 1 (.slice A k cap) k ((begs n xs ys ss l.data.toList k).map (Value.int .i64))) ∧ Hid (Below w1.heap.size w1 wr)) (fun _ i _ => l.size + 1 - (intOf i).toNat)
    case atStart => exact ⟨0, 0, _, Nat.zero_le _, rfl, rfl, L2, B2⟩
    case round =>
      obtain ⟨k, cap, A, hk, rfl, rfl, hown, hbw⟩ := hrel
      by_cases hlt : k < l.size + 1
      · have hk0 : (0 : Int) ≤ (k : Int) := by omega
        have hk1 : (k : Int) ≤ (l.size : Int) := by omega
        have hk2 : (k : Int) < ((l.size + 1 : Nat) : Int) := by omega
        obtain ⟨z, hz⟩ : ∃ z, costF n xs ys ss (l.extract 0 k).data.toList = z := ⟨_, rfl⟩
        have HZ := Lib.hid hz
        have HSN : Hid (begs n xs ys ss l.data.toList (k + 1) = begs n xs ys ss l.data.toList k ++ [z]) := by
          show _ = _
          rw [begs_snoc, ← hz, extract_list]
        have hle : (l.extract 0 k).size ≤ 1000 := by rw [ByteArray.size_extract]; omega
        have hae : (l.extract 0 k).data.toList.all isAB = true := by
          rw [extract_list]
          exact List.all_eq_true.2 (fun x hx => List.all_eq_true.1 HL2.out x (List.mem_of_mem_take hx))
        have HAE := Lib.hid hae
        have hS0 := K.out wr.drew hbw.out.drew
        clear hz hae
        go_upto_region 7 with fail
        refine wp_region_Z (S := fun w' => Hid (Below w1.heap.size w1 w') ∧ w'.cell? ⟨w.heap.size, 0, none⟩ = some (.int .i64 n) ∧ w'.cell? ⟨w.heap.size, 1, none⟩ = some (.slice A1 xs.length c1) ∧ w'.cell? ⟨w.heap.size, 2, none⟩ = some (.slice A2 ys.length c2) ∧ w'.cell? ⟨w.heap.size, 3, none⟩ = some (.slice A3 ss.length c3)) (by kernel_rfl) hS0 (fun hS => ?_)
        clear hS0
        refine wpAnyZ_take (i := 0) (v := ?vp0) rfl (by kernel_rfl) (by kernel_rfl) (by kernel_rfl) (by kernel_rfl) (fun _ _ _ h => h) (Or.inl ⟨by rfl, ?yp0⟩) (by with_reducible assumption) ?rp0
        case yp0 => (intro w hSw; (try dsimp only at hSw); go_simp; (try with_reducible rfl))
        simp only [Act.put, List.setIfInBounds_toArray]
        refine wpAnyZ_take (i := 1) (v := ?vp1) rfl (by kernel_rfl) (by kernel_rfl) (by kernel_rfl) (by kernel_rfl) (fun _ _ _ h => h) (Or.inl ⟨by rfl, ?yp1⟩) (by with_reducible assumption) ?rp1
        case yp1 => (intro w hSw; (try dsimp only at hSw); go_simp; (try with_reducible rfl))
        simp only [Act.put]
        refine wpAnyZ_take (i := 2) (v := ?vp2) rfl (by kernel_rfl) (by kernel_rfl) (by kernel_rfl) (by kernel_rfl) (fun _ _ _ h => h) (Or.inl ⟨by rfl, ?yp2⟩) (by with_reducible assumption) ?rp2
        case yp2 => (intro w hSw; (try dsimp only at hSw); go_simp; (try with_reducible rfl))
        simp only [Act.put]
        refine wpAnyZ_take (i := 3) (v := ?vp3) rfl (by kernel_rfl) (by kernel_rfl) (by kernel_rfl) (by kernel_rfl) (fun _ _ _ h => h) (Or.inl ⟨by rfl, ?yp3⟩) (by with_reducible assumption) ?rp3
        case yp3 => (intro w hSw; (try dsimp only at hSw); go_simp; (try with_reducible rfl))
        simp only [Act.put]
        refine wpAnyZ_take (i := 4) (v := ?vp4) rfl (by kernel_rfl) (by kernel_rfl) (by kernel_rfl) (by kernel_rfl) (fun _ _ _ h => h) (Or.inl ⟨by rfl, ?yp4⟩) (by with_reducible assumption) ?rp4
        case yp4 => (intro w hSw; (try dsimp only at hSw); go_simp; (try with_reducible rfl))
        simp only [Act.put]
        refine wpAnyZ_step (i := 5) (by kernel_rfl) rfl ?_
        intro K1 hK1
        go_simp
        refine (l4Cost_any n _ _ _ _ _ _ xs ys ss (l.extract 0 k) z _ n1 n2 ((HX0.out.below hS.1.out).more hS.1.out.size) ((HY0.out.below hS.1.out).more hS.1.out.size) (HS.out.on hS.1.out) HXI.out HYI.out HSI.out hle HAE.out HZ.out).mono ?_
        rintro e w4 ⟨rfl, hb4⟩
        have B4 := Lib.hid (below_on hS.1.out hb4.out)
        have O4 := Lib.hid (own_under (show wr.drew.ownsRow _ _ _ _ _ _ from hown.out) hb4.out)
        refine hK1.out _ _ (K.out _ B4.out) (fun hS1 => ?_)
        clear hK1 hb4 hS hown hbw
        (try simp only [Act.put])
        refine wpAnyZ_step (i := 6) (by kernel_rfl) rfl ?_
        intro K2 hK2
        go_simp
        have B5 := Lib.hid (below_al B4.out (Nat.le_refl _) (.cells #[.int .i64 z] 3))
        refine hK2.out _ _ (K.out _ B5.out) (fun hS2 => ?_)
        clear hK2 hS1
        (try simp only [Act.put])
        refine wpAnyZ_step (i := 7) (by kernel_rfl) rfl ?_
        intro K3 hK3
        have hszL : L ≤ w4.heap.size + 1 := by have := B4.out.size; have := HL.out; omega
        refine step_append_lies _ rfl _ _ 23 rfl L 3 i0 (.int .i64 0) 1 8 Tryz.underlying23 ZI.out Z0.out Z1.out Z2.out rfl (by decide) _ _ _ rfl (O4.out.alloc _) ⟨w4.heap.size, 0, none⟩ 1 1 [.int .i64 z] rfl rfl (news_one ((Blk.new _ _ _).cell 0)) (by simp [Value.oneCell']) (by omega) (by unfold maxLen; omega) (by omega) (by simp; omega) _ rfl ?_
        intro g' cap' w6 hown' hgrow hat hlt'
        have B6 : Hid (Below w1.heap.size w1 w6) := B5.out.grown hgrow B5.out.size (fun j hj => by have := (O4.out.lt j hj).1; have := HL.out; omega)
        have O6 : Hid (w6.ownsRow L 3 1 (.slice (some ⟨g', 0, none⟩) (k + 1) cap') (k + 1) ((begs n xs ys ss l.data.toList (k + 1)).map (Value.int .i64))) := by
          show World.ownsRow _ _ _ _ _ _ _
          rw [HSN.out, ← int_snoc]
          exact hown'
        refine hK3.out _ _ (K.out _ B6.out) (fun hS3 => ?_)
        clear hK3 hS2 hown' hgrow hat hlt' O4 B4 B5 hszL
        (try simp only [Act.put])
        refine wpAnyZ_last (i := 8) (by kernel_rfl) rfl (by kernel_rfl) ?_
        intro K4 hK4
        go_simp
        refine hK4.out _ _ ?_
        clear hK4
        go_wp2_with fail
        go_roundw
        case rel => exact ⟨k + 1, cap', _, by omega, rfl, by go_num, O6, B6⟩
        case measure => simp [intOf]; omega
      · obtain rfl : k = l.size + 1 := by omega
        go_wp2_with fail
        refine bodyPost_ret (results_2 rfl (Gives.tmp rfl) (Gives.tmp rfl)) rfl ?_
        refine LEnd.good HR.out ?_ (below_on' B0.out hbw.out) (by rw [begs_len]; omega)
        rw [begs_len]
        exact own_base hown.out (Nat.le_of_lt kL)
end Go.Proofs.YtjhaegkefagngaaGreatDoor
