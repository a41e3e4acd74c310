/- The walk of the exact law of ParseGrades: it returns true for all texts; nothing that was there changes. Condition: the shape of the listed variables. -/
import Derived.Test.YtmdddjiegjcekaaDoorGParse
import Derived.Test.YtmdddjiegjcekaaDoorMark
import Derived.Test.YtmdddjiegjcekaaDoorVK
namespace Go.Proofs.YtmdddjiegjcekaaDoor
open Go.RowKit
set_option maxHeartbeats 1000000
set_option maxRecDepth 100000
set_option linter.unusedVariables false

/-- MEnd with the slice opened, its row's lower end kept. -/
theorem MEnd.openG {r : Option (Int × List Int)} {w w' : World} {e : Ending} {m : Int} {zs : List Int} {ok : Bool} (h : MEnd r w e w') (h1 : (r.getD (0, [])).1 = m) (h2 : (r.getD (0, [])).2 = zs) (h3 : r.isSome = ok) :
    ∃ A cap, e = .returned (.tuple #[.agg #[.int .i64 m, .slice A zs.length cap], .bool ok]) ∧ Hid (w'.ownsRow w.heap.size 3 1 (.slice A zs.length cap) zs.length (zs.map (Value.int .i64))) ∧ zs.length ≤ 1048577 ∧ Hid (Below w.heap.size w w') := by
  obtain ⟨v, rfl, ⟨x, rfl, ho, hl⟩, hb⟩ := h
  rw [h2] at ho hl
  obtain ⟨A, cap, rfl, _, _⟩ := own_ints ho (by unfold maxLen; omega)
  rw [h1, h3]
  exact ⟨A, cap, rfl, ho, hl, hb⟩

theorem FnExactParseGrades_walk (s : ByteArray) (hm : s.size ≤ maxLen) (w : World) (hsh : w.ShapedOpen Tryd.prog) :
    Calls Tryd.prog 3 #[.string s] w fun e w' => e = .returned (.bool true) ∧ Below w.heap.size w w' := by
  have hs : s.size ≤ 9223372036854775807 := by unfold maxLen at hm; exact hm
  have hM0 := maxC_of_shaped hsh
  clear hm hsh
  by_cases hb : (1048576 : Int) < (s.size : Int)
  · clear hM0
    go_enter Tryd.func3, Tryd.ntmps3
    go_wp2_with fail
    go_ret
    exact ⟨rfl, Below.refl _ _⟩
  · have hs' : s.size ≤ 1048576 := by omega
    have HM0 := Lib.hid hM0
    have HML := Lib.hid hM0.lt
    clear hM0
    obtain ⟨r, hr⟩ : ∃ r, r = parseG s.data.toList := ⟨_, rfl⟩
    obtain ⟨m, hm⟩ : ∃ m, (r.getD (0, [])).1 = m := ⟨_, rfl⟩
    obtain ⟨vs, hvs⟩ : ∃ vs, (r.getD (0, [])).2 = vs := ⟨_, rfl⟩
    obtain ⟨ok, hok⟩ : ∃ ok, r.isSome = ok := ⟨_, rfl⟩
    have HS := Lib.hid (fun w0 => sParseG_any s w0 hs')
    have HI := Lib.hid (fun w0 => iParseG_any s w0 hs')
    rw [← hr] at HS HI
    have H1 := Lib.hid hm
    have H2 := Lib.hid hvs
    have H3 := Lib.hid hok
    clear hr hm hvs hok
    go_enter Tryd.func3, Tryd.ntmps3
    go_wp2_with fail
    refine (HS.out w).mono ?_
    rintro e w1 he
    obtain ⟨A1, cap1, rfl, O1, hl1, B1⟩ := he.openG H1.out H2.out H3.out
    clear he
    have N1 := Lib.hid (VA.new rfl (own_base O1.out (Nat.zero_le _)) hl1 (m := m))
    have C1 := Lib.hid (below_al B1.out (Nat.le_refl _) (MO A1 cap1 m vs))
    clear O1 B1
    go_wp2_with fail
    refine (HI.out _ (HM0.out.below C1.out HML.out)).mono ?_
    rintro e w2 he
    obtain ⟨A2, cap2, rfl, O2, hl2, B2⟩ := he.openG H1.out H2.out H3.out
    clear he hl2
    have F1 := Lib.hid (N1.out.below B2.out)
    have C2 := Lib.hid (below_on C1.out B2.out)
    have D2 : Hid (∀ j, (Value.slice A2 vs.length cap2).ownBlock = some j → w1.heap.size + 1 ≤ j ∧ j < w2.heap.size ∧ w.heap.size ≤ j) := fun j hj => by
      have h := O2.out.lt j hj
      have h0 := C1.out.size
      simp at h h0
      exact ⟨h.1, h.2, by omega⟩
    have D1 : Hid (∀ j, (Value.slice A1 vs.length cap1).ownBlock = some j → j < w1.heap.size + 1) := fun j hj => by
      have h := (N1.out.2.1.lt j hj).2
      simp at h; exact h
    clear N1 C1 B2
    have x2 := F1.out.lt
    obtain ⟨x0, x1⟩ := F1.out.cells
    have N1 := Lib.hid (F1.out.al (MO A2 cap2 m vs))
    have N2 := Lib.hid (VA.new rfl (own_base O2.out (Nat.zero_le _)) hl1 (m := m))
    have C3 := Lib.hid (below_al C2.out (Nat.le_refl _) (MO A2 cap2 m vs))
    clear F1 O2 C2
    go_wp2_with fail
    refine (eqMatrix_eq _ _ _ _ _ _ _ (N2.out.2.1.ints hl1) (N1.out.2.1.ints hl1)).mono ?_
    rintro e w3 ⟨rfl, hb3⟩
    have F1 := Lib.hid (N1.out.below hb3)
    have F2 := Lib.hid (N2.out.below hb3)
    have C4 := Lib.hid (below_on C3.out hb3)
    clear N1 N2 C3 hb3 x0 x1 x2
    have x2 := F2.out.lt
    obtain ⟨x0, x1⟩ := F2.out.cells
    go_wp2_with fail
    refine (markMatrix_own _ _ _ _ _ _ _ hl1 F2.out.2.1).mono ?_
    rintro e w4 ⟨rfl, ho4, hg4⟩
    have hlt1 := F1.out.lt
    have hP1 : ∀ j, (Value.slice A2 vs.length cap2).ownBlock = some j → j ≠ w1.heap.size := fun j hj => by have := (D2.out j hj).1; omega
    have hP2 : ∀ j, (Value.slice A2 vs.length cap2).ownBlock = some j → j ≠ w2.heap.size := fun j hj => by have := (D2.out j hj).2.1; omega
    have F1b := blk_g F1.out.1 hg4 (fun he => hP1 _ he.symm rfl)
    have F2b := Lib.hid (blk_g F2.out.1 hg4 (fun he => hP2 _ he.symm rfl))
    have F1o := F1.out.2.1.kept hg4 (by
      rcases h0 : (Value.slice A1 vs.length cap1).ownBlock with _ | j
      · exact Or.inl rfl
      · right
        intro he
        have h1 := D1.out j h0
        have h2 := (D2.out j he.symm).1
        omega)
    have G1 := Lib.hid (show VA w4 w1.heap.size A1 cap1 m vs from ⟨F1b, F1o, hl1⟩)
    have C5 := Lib.hid (C4.out.grown hg4 C4.out.size (fun j hj => (D2.out j hj).2.2))
    have O4 := Lib.hid ho4
    clear F1 F2 C4 ho4 hg4 F1b F1o x0 x1 x2 hlt1 hP1 hP2
    obtain ⟨x0, x1⟩ := two_cells F2b.out
    have x2 := Blk.lt F2b.out
    go_wp2_with fail
    refine (heldMatrix_own _ _ _ _ _ _ hl1 O4.out).mono ?_
    rintro e w5 ⟨rfl, hb5⟩
    have F1 := Lib.hid (G1.out.below hb5)
    have F2 := Lib.hid (blk_b F2b.out hb5)
    have O5 := Lib.hid (own_under O4.out hb5)
    have C6 := Lib.hid (below_on C5.out hb5)
    clear G1 F2b O4 C5 hb5 x0 x1 x2
    go_wp2_with fail
    refine (HI.out _ (HM0.out.below C6.out HML.out)).mono ?_
    rintro e w6 he
    obtain ⟨A6, cap6, rfl, O6, hl6, B6⟩ := he.openG H1.out H2.out H3.out
    clear he hl6
    have G1 := Lib.hid (F1.out.below B6.out)
    have G2 := Lib.hid (blk_b F2.out B6.out)
    have P5 := Lib.hid (own_under O5.out B6.out)
    have C7 := Lib.hid (below_on C6.out B6.out)
    clear F1 F2 O5 C6 B6
    have x2 := G1.out.lt
    obtain ⟨x0, x1⟩ := G1.out.cells
    have N1 := Lib.hid (G1.out.al (MO A6 cap6 m vs))
    have N2 := Lib.hid (G2.out.alloc (MO A6 cap6 m vs))
    have N6 := Lib.hid (VA.new rfl (own_base O6.out (Nat.zero_le _)) hl1 (m := m))
    have Q5 := Lib.hid (P5.out.alloc (MO A6 cap6 m vs))
    have C8 := Lib.hid (below_al C7.out (Nat.le_refl _) (MO A6 cap6 m vs))
    clear G1 G2 P5 C7 O6
    go_wp2_with fail
    refine (eqMatrix_eq _ _ _ _ _ _ _ (N6.out.2.1.ints hl1) (N1.out.2.1.ints hl1)).mono ?_
    rintro e w7 ⟨rfl, hb7⟩
    have F2 := Lib.hid (blk_b N2.out hb7)
    have O7 := Lib.hid (own_under Q5.out hb7)
    have C9 := Lib.hid (below_on C8.out hb7)
    clear N1 N2 N6 Q5 C8 hb7 x0 x1 x2
    obtain ⟨x0, x1⟩ := two_cells F2.out
    have x2 := Blk.lt F2.out
    go_wp2_with fail
    refine (heldMatrix_own _ _ _ _ _ _ hl1 O7.out).mono ?_
    rintro e w8 ⟨rfl, hb8⟩
    have C10 := Lib.hid (below_on C9.out hb8)
    clear hb8 C9
    go_wp2_with fail
    go_ret
    exact ⟨rfl, C10.out⟩
end Go.Proofs.YtmdddjiegjcekaaDoor
