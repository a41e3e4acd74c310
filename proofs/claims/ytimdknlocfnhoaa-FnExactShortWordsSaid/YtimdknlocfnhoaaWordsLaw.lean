/- The walk of the exact law of ShortWords: it returns true for all arguments; nothing that was there changes. No condition. -/
import Derived.Test.YtimdknlocfnhoaaWordsC
import Derived.Test.YtimdknlocfnhoaaStrs
namespace Go.Proofs.Ytimdknlocfnhoaa
open Go.RowKit
set_option maxHeartbeats 4000000
set_option maxRecDepth 100000
set_option linter.unusedVariables false

theorem FnExactShortWords_walk (k : Int) (hkf : (Lit.int .i64 k).wf = true) (w : World) :
    Calls Try.prog 3 #[.int .i64 k] w fun e w' => e = .returned (.bool true) ∧ Below w.heap.size w w' := by
  obtain ⟨hok, hlen⟩ := shortR_ok k
  have HS := fun w => sShortWords_any k w
  have HI := fun w => iShortWords_any k w
  unfold SWEnd at HS HI
  obtain ⟨L, hL⟩ : ∃ L, shortR k = L := ⟨_, rfl⟩
  obtain ⟨b, hb⟩ : ∃ b, shortOk k = b := ⟨_, rfl⟩
  rw [hL] at hok hlen HS HI
  rw [hb] at HS HI
  have HSP := Lib.hid HS
  have HIP := Lib.hid HI
  have HOK := Lib.hid hok
  clear hL hb HS HI hok
  obtain ⟨n, hn⟩ : ∃ n, n = L.length := ⟨_, rfl⟩
  have HN := Lib.hid hn
  have hn1 : n ≤ 256 := by omega
  clear hn hlen
  go_enter Try.func3, Try.ntmps3
  go_wp2_with fail
  refine (HSP.out _).mono ?_
  rintro e w1 ⟨x, rfl, ho1, hb1⟩
  rw [← HN.out] at ho1
  have O1 := Lib.hid ho1
  have B1 := Lib.hid hb1
  have D1 : Hid (∀ j, x.ownBlock = some j → j < w1.heap.size) := fun j hj => (ho1.lt j hj).2
  clear ho1 hb1
  go_wp2_with fail
  refine (HIP.out _).mono ?_
  rintro e w2 ⟨y, rfl, ho2, hb2⟩
  rw [← HN.out] at ho2
  have O2 := Lib.hid ho2
  have P2 := Lib.hid (own_under O1.out hb2)
  have B2 := Lib.hid (below_on B1.out hb2)
  have D2 : Hid (∀ j, y.ownBlock = some j → w1.heap.size ≤ j ∧ j < w2.heap.size) := fun j hj => ho2.lt j hj
  clear ho2 hb2 O1
  go_wp2_with fail
  refine (eqStr_own _ _ _ n y x L HN.out.symm HOK.out O2.out P2.out).mono ?_
  rintro e u2 ⟨rfl, m2, hu2⟩
  have hbu : Below w2.heap.size w2 u2 := by rw [hu2]; exact below_dr (Below.refl _ _) m2
  have O3 := Lib.hid (own_under O2.out hbu)
  have P3 := Lib.hid (own_under P2.out hbu)
  have B3 := Lib.hid (below_on B2.out hbu)
  have D3 : Hid (∀ j, y.ownBlock = some j → w1.heap.size ≤ j ∧ j < u2.heap.size) := fun j hj => by have := D2.out j hj; have := hbu.size; omega
  clear hu2 hbu O2 P2 B2 D2
  go_wp2_with fail
  refine (markStr_own _ _ n y _ (by omega) O3.out).mono ?_
  rintro e w4 ⟨rfl, ho4, hg4⟩
  have O4 := Lib.hid ho4
  have P4 : Hid (w4.ownsRow w.heap.size 9 1 x n (L.map Value.string)) := P3.out.kept hg4 (by
    rcases hx : x.ownBlock with _ | i
    · exact Or.inl rfl
    · right
      intro e
      have h1 := D1.out i hx
      have h2 := D3.out i e.symm
      omega)
  have B4 : Hid (Below w.heap.size w w4) := B3.out.grown hg4 B3.out.size (fun j hj => by have := D3.out j hj; have := B1.out.size; omega)
  clear ho4 hg4 O3 P3 B3 D3
  go_wp2_with fail
  refine (heldStr_own _ _ n y (by omega) O4.out).mono ?_
  rintro e w5 ⟨rfl, hb5⟩
  have O5 := Lib.hid (own_under O4.out hb5.out)
  have P5 := Lib.hid (own_under P4.out hb5.out)
  have B5 := Lib.hid (below_on B4.out hb5.out)
  clear hb5 O4 P4 B4
  have hc1 : ¬ ((n : Int) + 1 < 0) := by omega
  go_wp2_with fail
  refine (HIP.out _).mono ?_
  rintro e w6 ⟨z, rfl, ho6, hb6⟩
  rw [← HN.out] at ho6
  have O6 := Lib.hid ho6
  have Q6 := Lib.hid (own_under O5.out hb6)
  have P6 := Lib.hid (own_under P5.out hb6)
  have B6 := Lib.hid (below_on B5.out hb6)
  clear ho6 hb6 O5 P5 B5
  go_wp2_with fail
  refine (eqStr_own _ _ _ n z x L HN.out.symm HOK.out O6.out P6.out).mono ?_
  rintro e u6 ⟨rfl, m6, hu6⟩
  have hbu : Below w6.heap.size w6 u6 := by rw [hu6]; exact below_dr (Below.refl _ _) m6
  have Q7 := Lib.hid (own_under Q6.out hbu)
  have B7 := Lib.hid (below_on B6.out hbu)
  clear hu6 hbu O6 P6 Q6 B6
  go_wp2_with fail
  refine (heldStr_own _ _ n y (by omega) Q7.out).mono ?_
  rintro e w8 ⟨rfl, hb8⟩
  have B8 := Lib.hid (below_on B7.out hb8.out)
  clear hb8 Q7 B7
  go_wp2_with fail
  go_ret
  exact ⟨rfl, B8.out⟩
end Go.Proofs.Ytimdknlocfnhoaa
