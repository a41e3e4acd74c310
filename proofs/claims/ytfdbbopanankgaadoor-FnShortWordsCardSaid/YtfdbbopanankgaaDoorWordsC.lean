/- All short words as a list: the program's, collected from its iterator, and the model's; in new memory; nothing that was there changes. No condition. -/
import Derived.Test.YtfdbbopanankgaaDoorShortI
import Derived.Test.YtfdbbopanankgaaDoorWordsS
import Derived.Test.YtfdbbopanankgaaDoorValD
import Derived.Maps.OwnIn
namespace Go.Proofs.YtfdbbopanankgaaDoor
open Go.RowKit Go.Shelf
attribute [local go_sem] Oper.semAt_some
set_option maxHeartbeats 4000000
set_option maxRecDepth 100000
set_option linter.unusedVariables false

theorem own_baseW {w : World} {base base' n : Nat} {t : TypeId} {x : Value} {xs : List Value} (h : w.ownsRow base t 1 x n xs) (hb : base' ≤ base) : w.ownsRow base' t 1 x n xs := by
  obtain ⟨h1, h2⟩ := h
  refine ⟨h1, ?_⟩
  rcases h2 with h2 | ⟨g, cap, cur, e, hg, rest⟩
  · exact Or.inl h2
  · exact Or.inr ⟨g, cap, cur, e, Nat.le_trans hb hg, rest⟩
theorem SeqOwn.later {α : Type} {F : Fence} {n : Nat} {P : Program} {g : Nat} {lb : Array Value} {encs : α → Array Value} {Y : Nat → Prop} {S : List α → Prop} {N : Nat} {w w' : World} (h : SeqOwn F n P g lb encs Y S N w) (hb : Below w.heap.size w w') : SeqOwn F n P g lb encs Y S N w' :=
  fun l J W hW => h l J W (hb.trans (hW.mono hb.size))
theorem row_far {v : Value} {T : Nat} (h : ∀ j, v.ownBlock = some j → T < j) : some T ≠ v.ownBlock := fun e => by have := h T e.symm; omega
/-- A variable that holds a slice of words of the call's own; none of X is its block. -/
def ListW (W : World) (T base : Nat) (X : List Nat) (vs : List (Nat × Nat)) : Prop := ∃ v, Boxed W T 32 v ∧ W.ownsRow base 9 1 v vs.length (vs.map (fun x => Value.string (wv x))) ∧ ∀ j ∈ X, v.ownBlock ≠ some j
theorem ListW.turn {A D : World} {T base : Nat} {X : List Nat} {zs : List (Nat × Nat)} {row : Option Nat} (h : ListW A T base X zs) (hg : A.grownBy D row) (hT : some T ≠ row) (hr : ∀ r, row = some r → r ∈ X ∨ r < base) : ListW D T base X zs := by
  obtain ⟨v, h1, h2, h3⟩ := h
  refine ⟨v, h1.kept hg hT, h2.kept hg ?_, h3⟩
  rcases ho : v.ownBlock with _ | j
  · exact Or.inl rfl
  · right
    intro e
    rcases hr j e.symm with h | h
    · exact h3 j h ho
    · have := (h2.lt j ho).1; omega
theorem ListW.new {A D : World} {T base : Nat} {X : List Nat} {zs : List (Nat × Nat)} (h : ListW A T base X zs) (hg : A.grownBy D none) {j : Nat} (hj : A.heap.size ≤ j) : ListW D T base (j :: X) zs := by
  obtain ⟨v, h1, h2, h3⟩ := h
  refine ⟨v, h1.kept hg (by simp), h2.kept hg ?_, fun i hi => ?_⟩
  · rcases ho : v.ownBlock with _ | j
    · exact Or.inl rfl
    · exact Or.inr (by simp)
  · rcases List.mem_cons.1 hi with rfl | hi
    · intro e
      have := (h2.lt _ e).2; omega
    · exact h3 i hi

theorem appendWords_any (gf : Nat) (lb : Array Value) (Y : Nat → Prop) (S : List (Nat × Nat) → Prop) (L : Nat) (w : World) (hgf : ∃ fn c, Tryd.prog.funcs[gf]? = some fn ∧ fn.body = some c) (eg : ∀ args w, (callFunc gf args).run Tryd.prog w = .ok (.enter gf args) w) (hL : L ≤ 2000) (hseq : SeqOwn Fence.wide 3 Tryd.prog gf lb (fun x : Nat × Nat => #[.string (wv x)]) Y S L w) (hY : ∀ j, Y j → j < w.heap.size) (hS : ∀ vs, S vs → vs.length ≤ L) :
    Calls Tryd.prog 38 #[.slice none 0 0, .func (.func gf) #[] lb] w fun e w' => ∃ v vs, e = .returned v ∧ S vs ∧ w'.ownsRow w.heap.size 9 1 v vs.length (vs.map (fun x => Value.string (wv x))) ∧ Below w.heap.size w w' := by
  refine (callsIn_wide (n := 4)).1 ?_
  refine callsIn_of_wp_marks Tryd.func38 rfl trivial ?_ rfl
  simp only [Tryd.ntmps38, List.size_toArray, List.length_cons, List.length_nil, Nat.reduceAdd, Nat.reduceSub, Array.replicate_succ, Array.replicate_zero, List.push_toArray, List.append_toArray, List.nil_append, List.cons_append]
  gi_wp2_with fail
  obtain ⟨T, hT⟩ : ∃ T, T = w.heap.size := ⟨_, rfl⟩
  obtain ⟨W0, hW0⟩ : ∃ W0, W0 = w.alloc (.cells #[.slice none 0 0] 32) := ⟨_, rfl⟩
  have mT : Hid (Boxed W0 T 32 (.slice none 0 0)) := by rw [hW0, hT]; exact Boxed.new _ _ _
  have hB0 : Hid (Below w.heap.size w W0) := by
    show Below _ _ _
    rw [hW0]; exact below_a1 w _
  have hs0 : W0.heap.size = w.heap.size + 1 := by rw [hW0]; simp
  have kT : T < W0.heap.size := by omega
  have kw : w.heap.size ≤ T := by omega
  have hY' : ∀ j, Y j → j < T := fun j hj => by have := hY j hj; omega
  have HSEQ := hseq.later hB0.out
  rw [← hW0, ← hT]
  obtain ⟨i0, hi, hz0, hz1, hz2⟩ := info_parts info_string
  have ZI := Lib.hid hi
  have Z0 := Lib.hid hz0
  have Z1 := Lib.hid hz1
  have Z2 := Lib.hid hz2
  clear hi hz0 hz1 hz2 hT hW0 hs0 hY
  refine wpIn_over rfl (by omega) (gf := gf) rfl trivial eg HSEQ
    (fun j hj => by have := hY' j hj; omega) (Below.refl _ _) (fun _ => rfl)
    (fun J pre W => (∀ j ∈ J, W0.heap.size ≤ j) ∧ ListW W T (W0.heap.size + 2) J pre ∧ Below w.heap.size w W ∧ W0.heap.size ≤ W.heap.size)
    (fun J s A D row h hg hr => by
      obtain ⟨h1, h3, h4, h5⟩ := h
      have ne : ∀ k, k < W0.heap.size → some k ≠ row := fun k hk e => by
        rcases hr k e.symm with h | h | h
        · have := h1 k h; omega
        · omega
        · omega
      exact ⟨h1, h3.turn hg (ne _ (by omega)) (fun r e => by
        rcases hr r e with h | h | h
        · exact Or.inl h
        · right; omega
        · right; omega), h4.grown hg h4.size (fun j hj => by
        rcases hr j hj with h | h | h
        · have := h1 j h; omega
        · omega
        · omega), Nat.le_trans h5 hg.size⟩)
    (fun J s A D j h hg hj1 hj2 => by
      obtain ⟨h1, h3, h4, h5⟩ := h
      exact ⟨fun i hi => by
        rcases List.mem_cons.1 hi with rfl | hi
        · omega
        · exact h1 i hi, h3.new hg hj1, h4.grown hg h4.size (fun j hj => by cases hj), Nat.le_trans h5 hg.size⟩)
    ⟨fun j hj => (by cases hj), ⟨_, mT.out, World.ownsRow_nil _ _ _ _, fun j hj => by cases hj⟩, hB0.out, Nat.le_refl _⟩
    (fun J pre x a' W => a' = { tmps := #[.slice none 0 0, .func (.func gf) #[] lb, .pointer (some ⟨T, 0, none⟩), undef, .slice none 0 0, .string (wv x), .func (.func gf) #[] lb, .string (wv x), undef, undef, undef, undef, undef], defers := [] } ∧ (∀ j ∈ J, W0.heap.size ≤ j) ∧ ListW W T (W0.heap.size + 2) J pre ∧ Below w.heap.size w W ∧ W0.heap.size ≤ W.heap.size)
    (fun J pre x a' A D h hg => by
      obtain ⟨g3, h1, h3, h4, h5⟩ := h
      exact ⟨g3, h1, h3.turn hg (fun e => by have := Option.some.inj e; omega) (fun r e => by have := Option.some.inj e; right; omega), h4.grown hg h4.size (fun j hj => by have := Option.some.inj hj; omega), Nat.le_trans h5 hg.size⟩)
    ?assign ?body ?done
  case assign =>
    rintro q J pre x W K hI hXb hsb hlen hK
    gi_wp2_with fail
    exact hK _ _ ⟨rfl, hI⟩ ⟨Nat.le_refl _, fun j hj => rfl⟩
  case body =>
    rintro q J pre x a' W ⟨rfl, h1, ⟨v, hv, hrow, hvJ⟩, h4, h5⟩ hXb hsb hlen
    have hvc := hv.cell
    have hvf := hv.frozen
    have hTW : T < W.heap.size := by omega
    have hvT : ∀ j, v.ownBlock = some j → T < j := fun j hj => by have := (hrow.lt j hj).1; omega
    have HROW := Lib.hid hrow
    have HV := Lib.hid hv
    have H1 := Lib.hid h1
    have H4 := Lib.hid h4
    have HVJ := Lib.hid hvJ
    have HXB := Lib.hid hXb
    have HVT := Lib.hid hvT
    have hw24 : w.heap.size ≤ W0.heap.size := by omega
    clear hrow hv h1 h4 hvJ hXb hvT
    gi_wp2_with (first
      | (gi_at_builtin; refine wpListIn_append_own_at _ rfl _ _ 32 rfl (W0.heap.size + 2) 9 i0 (.string ByteArray.empty) 1 16 Tryd.underlying32 ZI.out Z0.out Z1.out Z2.out rfl (by decide) _ _ _ rfl (HROW.out.alloc _) ⟨W.heap.size, 0, none⟩ 1 1 [.string (wv x)] rfl rfl (World.news_of_block (Blk.new W 9 #[.string (wv x)])) (by simp [Value.oneCell']) (by unfold maxLen; omega) (by omega) (by simp; omega) ?_; intro v' w5 hown' hgrow _ hat; obtain ⟨g', cap', rfl⟩ := ownsRow_succ hown'; have hV5 := Boxed.kept (Boxed.alloc HV.out (.cells #[.string (wv x)] 9)) hgrow (row_far HVT.out); have hvc2 := hV5.cell; have hvf2 := hV5.frozen; have HO5 := Lib.hid hown'; have HG5 := Lib.hid hgrow; have HA5 := Lib.hid hat; have HV5 := Lib.hid hV5; clear hown' hgrow hat hV5)
      | fail)
    obtain ⟨w7, hw7⟩ : ∃ w7, w7 = w5.setCell ⟨T, 0, none⟩ (.slice (some ⟨g', 0, none⟩) (pre.length + 1) cap') := ⟨_, rfl⟩
    have hg7 : w5.grownBy w7 (some T) := by rw [hw7]; exact grow_set w5 T 0 _
    rw [← hw7]
    have hsA : W.heap.size + 1 ≤ w5.heap.size := by have := HG5.out.size; simp at this; omega
    have hbk : ∀ j, j < W.heap.size → j ≠ T → (∀ o, v.ownBlock = some o → j ≠ o) → w7.heap[j]? = W.heap[j]? := fun j hj hjT hjo => by
      have e1 := Below.heap_alloc W (.cells #[.string (wv x)] 9) j hj
      have e2 := HG5.out.block j (by simp; omega) (fun e => hjo j e.symm rfl)
      have e3 := hg7.block j (by omega) (fun e => hjT (Option.some.inj e))
      exact e3.trans (e2.trans e1)
    have hsz7 : W.heap.size ≤ w7.heap.size := by have := hg7.size; omega
    have hob : ∀ o, v.ownBlock = some o → W0.heap.size + 2 ≤ o := fun o ho => (HROW.out.lt o ho).1
    have hg'lo : W0.heap.size + 2 ≤ g' := (HO5.out.lt g' rfl).1
    refine ⟨⟨hsz7, fun j hj => ?_⟩, H1.out, ?_, ?_, Nat.le_trans h5 hsz7⟩
    · rcases hj with hj | hj | hj | hj
      · have := HXB.out j hj; exact hbk j this.2 (by omega) (fun o ho e => HVJ.out j hj (by rw [ho, e]))
      · have := hY' j hj; exact hbk j (by omega) (by omega) (fun o ho => by have := hob o ho; omega)
      · exact hbk j (by omega) (by omega) (fun o ho => by have := hob o ho; omega)
      · exact hbk j (by omega) (by omega) (fun o ho => by have := hob o ho; omega)
    · refine ⟨_, by rw [hw7]; exact HV5.out.set _, ?_, ?_⟩
      · rw [hw7]
        refine ownsRow_setCell_other ?_ (a := ⟨T, 0, none⟩) ?_ _
        · have h := HO5.out
          rw [List.map_append, List.length_append]
          exact h
        · intro e; have e' : g' = T := Option.some.inj e; omega
      · intro j hj e
        have e' : g' = j := Option.some.inj e
        subst e'
        have h := HXB.out _ hj
        rcases HA5.out with h' | h'
        · exact HVJ.out _ hj h'.symm
        · have h2 : g' = (W.alloc (.cells #[.string (wv x)] 9)).heap.size := Option.some.inj h'
          simp at h2; omega
    · have b5 := (below_al H4.out (Nat.le_refl _) (.cells #[.string (wv x)] 9)).grown HG5.out (by have := H4.out.size; simp; omega) (fun j hj => by have := hob j hj; omega)
      exact b5.grown hg7 b5.size (fun j hj => by have := Option.some.inj hj; omega)
  case done =>
    rintro J vs W hvs ⟨h1, ⟨v, hv, hrow, hvJ⟩, h4, h5⟩ hK
    have hvc := hv.cell
    have HROW := Lib.hid hrow
    have HK := Lib.hid hK
    have H4 := Lib.hid h4
    clear h1 hrow hvJ hK h4
    gi_wp2_with fail
    refine ⟨by simp, .inl ⟨_, _, rfl, run_takeDeferred HK.out, ?_⟩⟩
    refine ⟨_, results_tmp rfl _ _ _, v, vs, rfl, hvs, ?_, H4.out.grown (grownBy_putObj' W _ _) H4.out.size (fun j hj => by have := Option.some.inj hj; omega)⟩
    exact own_baseW (ownsRow_putObj HROW.out _ HK.out rfl) (by omega)

theorem collectWords_any (gf : Nat) (lb : Array Value) (Y : Nat → Prop) (S : List (Nat × Nat) → Prop) (L : Nat) (w : World) (hgf : ∃ fn c, Tryd.prog.funcs[gf]? = some fn ∧ fn.body = some c) (eg : ∀ args w, (callFunc gf args).run Tryd.prog w = .ok (.enter gf args) w) (hL : L ≤ 2000) (hseq : SeqOwn Fence.wide 3 Tryd.prog gf lb (fun x : Nat × Nat => #[.string (wv x)]) Y S L w) (hY : ∀ j, Y j → j < w.heap.size) (hS : ∀ vs, S vs → vs.length ≤ L) :
    Calls Tryd.prog 23 #[.func (.func gf) #[] lb] w fun e w' => ∃ v vs, e = .returned v ∧ S vs ∧ w'.ownsRow w.heap.size 9 1 v vs.length (vs.map (fun x => Value.string (wv x))) ∧ Below w.heap.size w w' := by
  have HC := Lib.hid (appendWords_any gf lb Y S L w hgf eg hL hseq hY hS)
  clear hgf eg hseq hY hS
  go_enter Tryd.func23, Tryd.ntmps23
  go_wp2_with fail
  refine HC.out.mono ?_
  rintro e w1 ⟨v, vs, rfl, hvs, ho, hb⟩
  have HO := Lib.hid ho
  have HB := Lib.hid hb
  clear ho hb
  go_wp2_with fail
  go_ret
  exact ⟨v, vs, rfl, hvs, HO.out, HB.out⟩

/-! The answers of ShortWords. -/
def shortR (k : Int) : List ByteArray := if shortOk k = true then wordsTo (k.toNat + 1) else []
theorem shortR_no {k : Int} (h : shortOk k = false) : shortR k = [] := by unfold shortR; rw [h]; rfl
theorem shortR_yes {k : Nat} (h : shortOk k = true) : shortR k = wordsTo (k + 1) := by unfold shortR; rw [if_pos h]; rfl
theorem shortR_ok (k : Int) : (∀ s ∈ shortR k, s.size ≤ 1000) ∧ (shortR k).length ≤ 256 := by
  by_cases h : shortOk k = true
  · obtain ⟨n, rfl, hn⟩ := shortOk_in h
    rw [shortR_yes h]
    refine ⟨fun s hs => by have := (wordsTo_ok (n + 1) (by omega) s hs).1; omega, ?_⟩
    have h1 := wordsTo_len (n + 1)
    have : 2 ^ (n + 1) ≤ 2 ^ 8 := Nat.pow_le_pow_right (by omega) (by omega)
    omega
  · rw [shortR_no (by simpa using h)]
    exact ⟨fun s hs => (by cases hs), Nat.zero_le _⟩
def SWEnd (k : Int) (w : World) (e : Ending) (w' : World) : Prop := ∃ x, e = .returned (.tuple #[x, .bool (shortOk k)]) ∧ w'.ownsRow w.heap.size 9 1 x (shortR k).length ((shortR k).map Value.string) ∧ Below w.heap.size w w'
theorem SWEnd.mk {k : Int} {w w' : World} {x : Value} {b : Bool} {L : List ByteArray} (hb : shortOk k = b) (hL : shortR k = L) (ho : w'.ownsRow w.heap.size 9 1 x L.length (L.map Value.string)) (hbw : Below w.heap.size w w') : SWEnd k w (.returned (.tuple #[x, .bool b])) w' := by
  subst hb
  subst hL
  exact ⟨x, rfl, ho, hbw⟩

theorem iShortWords_any (k : Int) (w : World) :
    Calls Tryd.prog 8 #[.int .i64 k] w fun e w' => SWEnd k w e w' := by
  obtain ⟨b, hb⟩ : ∃ b, shortOk k = b := ⟨_, rfl⟩
  have HB := Lib.hid hb
  clear hb
  cases b
  · go_enter Tryd.func8, Tryd.ntmps8
    go_wp2_with fail
    refine (shortValid_is _ false _ HB.out).mono ?_
    rintro e w1 ⟨rfl, hb1⟩
    go_wp2_with fail
    go_ret2
    exact SWEnd.mk HB.out (shortR_no HB.out) (World.ownsRow_nil _ _ _ _) hb1.out
  · obtain ⟨n, rfl, hn⟩ := shortOk_in HB.out
    go_enter Tryd.func8, Tryd.ntmps8
    go_wp2_with fail
    refine (shortValid_is _ true _ HB.out).mono ?_
    rintro e w1 ⟨rfl, hb1⟩
    have B1 := hb1.out
    clear hb1
    go_wp2_with fail
    refine (shortWords_any n _).mono ?_
    rintro e W0 ⟨rfl, hW0⟩
    have mB : Blk W0 w1.heap.size 3 #[.int .i64 n] := by rw [hW0]; exact Blk.new _ _ _
    have B2 : Below w.heap.size w W0 := by rw [hW0]; exact below_al B1 (Nat.le_refl _) _
    have hsz : w1.heap.size < W0.heap.size := by rw [hW0]; simp
    have HSEQ := words_seq n w1.heap.size 3 W0 hn (by omega) mB
    clear hW0 mB
    go_wp2_with fail
    refine (collectWords_any 29 _ _ _ 256 _ ⟨_, _, Tryd.func29, rfl⟩ (enters_of Tryd.func29 (by kernel_rfl) rfl) (by omega) HSEQ (fun j hj => by have : j = w1.heap.size := hj; omega) (fun vs hv => ?_)).mono ?_
    · rw [hv]
      have h1 := wordsP_len (n + 1)
      have : 2 ^ (n + 1) ≤ 2 ^ 8 := Nat.pow_le_pow_right (by omega) (by omega)
      omega
    rintro e w3 ⟨v, vs, rfl, hvs, ho, hb3⟩
    have hm : vs.map (fun x => Value.string (wv x)) = (wordsTo (n + 1)).map Value.string := by
      rw [← wordsP_wv (n + 1) (by omega), hvs, List.map_map]; rfl
    have hl : vs.length = (wordsTo (n + 1)).length := by rw [← wordsP_wv (n + 1) (by omega), hvs, List.length_map]
    rw [hm, hl] at ho
    have HO := Lib.hid (own_baseW ho B2.size)
    have HB3 := Lib.hid (below_on B2 hb3)
    clear ho hm hl hvs HSEQ hb3
    go_wp2_with fail
    go_ret2
    exact SWEnd.mk HB.out (shortR_yes HB.out) HO.out HB3.out

theorem sShortWords_any (k : Int) (w : World) :
    Calls Tryd.prog 9 #[.int .i64 k] w fun e w' => SWEnd k w e w' := by
  obtain ⟨b, hb⟩ : ∃ b, shortOk k = b := ⟨_, rfl⟩
  have HB := Lib.hid hb
  have hl1 : decide (0 ≤ k ∧ k ≤ 7) = b := by rw [← hb]; unfold shortOk; exact Bool.decide_and _ _
  have HL1 := Lib.hid hl1
  clear hb hl1
  cases b
  · go_enter Tryd.func9, Tryd.ntmps9
    go_wp2_with fail
    refine (l1In_is _ _ _ false _ HL1.out).mono ?_
    rintro e w1 ⟨rfl, rfl⟩
    go_wp2_with fail
    go_ret2
    refine SWEnd.mk HB.out (shortR_no HB.out) ⟨rfl, .inr ⟨w.heap.size, 0, #[], rfl, Nat.le_refl _, heap_alloc_new w _, Nat.le_refl _, by unfold maxLen; omega, rfl, rfl⟩⟩ (below_a1 w _)
  · obtain ⟨n, rfl, hn⟩ := shortOk_in HB.out
    go_enter Tryd.func9, Tryd.ntmps9
    go_wp2_with fail
    refine (l1In_is _ _ _ true _ HL1.out).mono ?_
    rintro e w1 ⟨rfl, rfl⟩
    go_wp2_with fail
    refine (l4Words_any n _ hn).mono ?_
    rintro e w3 ⟨x, rfl, ho, hb3⟩
    have HO := Lib.hid ho
    have HB3 := Lib.hid hb3
    clear ho hb3
    go_wp2_with fail
    go_ret2
    exact SWEnd.mk HB.out (shortR_yes HB.out) HO.out HB3.out
end Go.Proofs.YtfdbbopanankgaaDoor
