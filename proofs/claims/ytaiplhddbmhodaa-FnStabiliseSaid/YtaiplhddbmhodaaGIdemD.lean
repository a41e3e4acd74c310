/- A matrix of grades that is often its own square, drawn. -/
import Derived.Test.YtaiplhddbmhodaaGPair
import Derived.Test.YtaiplhddbmhodaaGIdem
import Derived.Test.YtaiplhddbmhodaaVK
namespace Go.Proofs.Ytaiplhddbmhodaa
open Go.RowKit
set_option maxHeartbeats 2000000
set_option maxRecDepth 100000
set_option linter.unusedVariables false

theorem drawn_al {base B g : Nat} {A : Option Addr} {cap : Nat} {zs : List Int} {p K : Nat} {w w' : World} {e : Ending} {k : Nat} {t : TypeId} {cs : Array Value} (h : Blk w' k t cs ∧ DrawnA base B g A cap zs p K w e w') (o : Obj) : Blk (w'.alloc o) k t cs ∧ DrawnA base B g A cap zs p K w e (w'.alloc o) := by
  obtain ⟨hb, v, m, vs, q, e, ⟨x, e2, ho, hl⟩, h1, h2, h3, h4⟩ := h
  exact ⟨hb.alloc o, v, m, vs, q, e, ⟨x, e2, ho.alloc o, hl⟩, h1, h2, h3.alloc o, grow_trans h4 (World.grownBy_alloc _ o _)⟩

theorem l6IdemD_any (w : World) (B g : Nat) (A : Option Addr) (cap : Nat) (zs : List Int) (q0 : Nat) (h : Rd w B g A cap zs q0) (hq0 : q0 + 60 ≤ 1000000000000) :
    Calls Try.prog 27 #[.pointer (some ⟨g, 0, none⟩)] w fun e w' => DrawnA w.heap.size B g A cap zs q0 30 w e w' := by
  have hgw := h.lt
  go_enter Try.func27, Try.ntmps27
  go_wp2_with fail
  refine (l6Some_any _ B g A cap zs q0 (h.alloc _) (by omega)).mono ?_
  rintro e w2 ⟨_, m, us, q2, rfl, ⟨x2, rfl, ho2, hl2⟩, hl3, hq2, hrd2, hg2⟩
  obtain ⟨A2, cap2, rfl, _, _⟩ := own_ints ho2 (by unfold maxLen; omega)
  have R2 := Lib.hid (show Blk w2 w.heap.size 25 #[.int .i64 0, .slice none 0 0] from (Blk.new w _ _).grown hg2 (by omega))
  have G2 := Lib.hid (grow_trans (grow_below_any (below_a1 w (.cells #[.int .i64 0, .slice none 0 0] 25)) (some g)) hg2)
  have D2 := Lib.hid hrd2
  have O2 := Lib.hid (own_base ho2 (show w.heap.size ≤ _ by simp))
  have hw2 := Blk.lt R2.out
  clear h ho2 hrd2 hg2
  go_wp2_with fail
  refine (pick_any _ _ _ _ _ _ _ _ (D2.out.alloc _) (by omega)).mono ?_
  rintro e w4 ⟨v, rfl, v0, v1, hoff, hrd⟩
  obtain ⟨P, hP⟩ : ∃ P, P = w2.heap.size := ⟨_, rfl⟩
  rw [← hP]
  have P4 := Lib.hid (show Blk w4 P 25 #[.int .i64 m, .slice A2 us.length cap2] from hoff.blk (blk_new hP) (by have := D2.out.lt; omega))
  have R4 := Lib.hid (show Blk w4 w.heap.size 25 #[.int .i64 0, .slice none 0 0] from hoff.blk (R2.out.alloc _) (by omega))
  have G4 := Lib.hid (grow_trans (grow_trans G2.out (World.grownBy_alloc w2 _ (some g))) hoff.grown)
  have D4 := Lib.hid (hrd (by omega))
  have O4 := Lib.hid (own_far (O2.out.alloc _) hoff.grown (by omega))
  have hPw : w.heap.size < P := by omega
  clear hrd hoff v0 v1 hP O2 D2 G2 R2
  obtain ⟨m0, m1⟩ := two_cells P4.out
  obtain ⟨mf0, mf1⟩ := two_frozen P4.out
  have fin : ∀ (w9 : World) (k : Int) (x : Option Addr) (capx q : Nat) (rs : List Int), (1 ≤ rs.length ∧ rs.length ≤ 18) → w9.ownsRow w.heap.size 3 1 (.slice x rs.length capx) rs.length (rs.map (Value.int .i64)) → Blk w9 w.heap.size 25 #[.int .i64 0, .slice none 0 0] → q ≤ q0 + 30 → Rd w9 B g A cap zs q → w.grownBy w9 (some g) →
      Blk ((w9.setCell ⟨w.heap.size, 0, none⟩ (.int .i64 k)).setCell ⟨w.heap.size, 1, none⟩ (.slice x rs.length capx)) w.heap.size 25 #[.int .i64 k, .slice x rs.length capx] ∧ DrawnA w.heap.size B g A cap zs q0 30 w (.returned (.agg #[.int .i64 k, .slice x rs.length capx])) ((w9.setCell ⟨w.heap.size, 0, none⟩ (.int .i64 k)).setCell ⟨w.heap.size, 1, none⟩ (.slice x rs.length capx)) := by
    intro w9 k x capx q rs hl ho hR hq hD hG
    refine ⟨(hR.set_ 0 _).set_ 1 _, _, k, rs, q, rfl, ⟨_, rfl, own_setm (own_setm ho hR 0 _) (hR.set_ 0 _) 1 _, by omega⟩, hl, by omega, ?_, ?_⟩
    · exact (hD.grown (grow_set w9 w.heap.size 0 _) (fun j hj => by cases hj; omega)).grown (grow_set _ w.heap.size 1 _) (fun j hj => by cases hj; omega)
    · exact grow_own (grow_own hG (grow_set w9 w.heap.size 0 _) (fun j hj => by cases hj; omega)) (grow_set _ w.heap.size 1 _) (fun j hj => by cases hj; omega)
  have FIN := Lib.hid fin
  clear fin
  obtain ⟨c0, c1⟩ := two_cells R4.out
  obtain ⟨f0, f1⟩ := two_frozen R4.out
  rcases Bool.eq_false_or_eq_true (decide (0 < v)) with hv | hv
  · have I4 := Lib.hid (own_int O4.out rfl (by omega))
    go_wp2_with fail
    refine (sIdem_any m A2 cap2 us.length us w4 rfl I4.out hl3.1 (by omega)).mono ?_
    rintro e w5 ⟨k, A5, cap5, rs, n, ok, rfl, hb5, hl5, ho5, hf, ht⟩
    have R5 := Lib.hid (R4.out.below hb5.out (Blk.lt R4.out))
    have P5 := Lib.hid (P4.out.below hb5.out (Blk.lt P4.out))
    have O5 := Lib.hid (own_under O4.out hb5.out)
    have hgb := grow_below_any hb5.out (some g)
    have D5 := Lib.hid (D4.out.grown (grow_below_any hb5.out none) (fun k hk => by cases hk))
    have G5 := Lib.hid (grow_trans G4.out hgb)
    have S5 := Lib.hid (own_base ho5.out (by have := Blk.lt R4.out; omega : w.heap.size ≤ w4.heap.size))
    have hs5 : w.heap.size < w5.heap.size := Blk.lt R5.out
    clear hgb hb5 ho5 R4 P4 O4 D4 G4 I4 c0 c1 f0 f1 m0 m1 mf0 mf1
    obtain ⟨m0, m1⟩ := two_cells P5.out
    obtain ⟨c0, c1⟩ := two_cells R5.out
    obtain ⟨f0, f1⟩ := two_frozen R5.out
    have m0' : ∀ o, (w5.alloc o).cell? ⟨P, 0, none⟩ = some (.int .i64 m) := fun o => (two_cells (P5.out.alloc o)).1
    have m1' : ∀ o, (w5.alloc o).cell? ⟨P, 1, none⟩ = some (.slice A2 us.length cap2) := fun o => (two_cells (P5.out.alloc o)).2
    rcases Bool.eq_false_or_eq_true ok with hok | hok
    · subst hok
      obtain ⟨N, E, hN, gv, hE, hn, hk, hrs⟩ := ht.out rfl
      have hlr : 1 ≤ rs.length ∧ rs.length ≤ 18 := by
        have h := gpw_ok gv E
        have h1 := h.len
        have h2 := h.mv.sq
        have h3 : 1 ≤ N * N := Nat.mul_pos h.lo h.lo
        rw [hrs]
        omega
      clear hf ht hN gv hE hn hk hrs m0 m1 m0' m1'
      go_wp2_with fail
      have HF := drawn_al (FIN.out w5 k A5 cap5 _ rs hlr S5.out R5.out (by omega) D5.out G5.out) (.cells #[.int .i64 k, .slice A5 rs.length cap5] 25)
      refine bodyPost_ret (results_1 rfl (gives_mat (g := w.heap.size) rfl HF.1)) rfl ?_
      exact HF.2
    · subst hok
      clear hf ht
      go_wp2_with fail
      have HF := drawn_al (FIN.out w5 m A2 cap2 _ us hl3 O5.out R5.out (by omega) D5.out G5.out) (.cells #[.int .i64 k, .slice A5 rs.length cap5] 25)
      refine bodyPost_ret (results_1 rfl (gives_mat (g := w.heap.size) rfl HF.1)) rfl ?_
      exact HF.2
  · go_wp2_with fail
    have HF := FIN.out w4 m A2 cap2 _ us hl3 O4.out R4.out (by omega) D4.out G4.out
    refine bodyPost_ret (results_1 rfl (gives_mat (g := w.heap.size) rfl HF.1)) rfl ?_
    exact HF.2
end Go.Proofs.Ytaiplhddbmhodaa
