/- MulMatrix, as the program has it: the plain function of its numbers, in new memory; nothing that was there changes. Matrices in variables through a walk of many calls, the slice's name kept. No condition. A matrix in a variable, with a row of its own, through a walk of many calls; what the program's and the model's functions leave, put so. No condition. -/
import Derived.Test.YtjhaegkefagngaaGreatDoorFace
import Derived.Test.YtjhaegkefagngaaGreatDoorSq7
import Derived.Test.YtjhaegkefagngaaGreatDoorVar
import Derived.Test.YtjhaegkefagngaaGreatDoorSpecMul
namespace Go.Proofs.YtjhaegkefagngaaGreatDoor
open Go.RowKit
set_option maxHeartbeats 1000000
set_option maxRecDepth 100000
set_option linter.unusedVariables false

theorem mv_at {n p q : Nat} {zs : List Int} (h : MV n zs) (hp : p = n * n) (hq : q < p) : 0 ≤ zs.getD q 0 ∧ zs.getD q 0 ≤ 1000000 := by
  have hq' : q < n * n := by rw [← hp]; exact hq
  have hb := h.in_ (q / n) (q % n) (div_lt_ hq') (mod_lt_ hq')
  have e : q / n * n + q % n = q := by rw [Nat.mul_comm, Nat.div_add_mod]
  simp only [cel] at hb
  rw [e] at hb
  exact hb

theorem iMul_any (m m' : Int) (A A' : Option Addr) (cap cap' : Nat) (zs ys : List Int) (w : World) (hz : Ints w w.heap.size A zs) (hy : Ints w w.heap.size A' ys) :
    Calls Tryz.prog 9 #[.agg #[.int .i64 m, .slice A zs.length cap], .agg #[.int .i64 m', .slice A' ys.length cap']] w fun e w' => MEnd (mulR m zs m' ys) w e w' := by
  rcases Bool.eq_false_or_eq_true (twoOk m zs m' ys) with hok | hok
  · have HR : Hid (mulR m zs m' ys = some (m, mulL m.toNat zs ys)) := by show _ = _; unfold mulR; rw [if_pos hok]
    obtain ⟨N, rfl, rfl, mv, mv'⟩ := twoOk_t hok
    have n1 := mv.lo
    have n2 := mv.hi
    obtain ⟨p, hp⟩ : ∃ p, p = N * N := ⟨_, rfl⟩
    have p1 : p ≤ 16 := by rw [hp]; exact mv.sq
    have HP := Lib.hid hp
    have hlp : zs.length = p := by rw [mv.len, hp]
    have hlq : ys.length = p := by rw [mv'.len, hp]
    have HLP := Lib.hid hlp
    have HLQ := Lib.hid hlq
    have HZB : Hid (∀ q, q < p → 0 ≤ zs.getD q 0 ∧ zs.getD q 0 ≤ 1000000) := fun q hq => mv_at mv hp hq
    have HYB : Hid (∀ q, q < p → 0 ≤ ys.getD q 0 ∧ ys.getD q 0 ≤ 1000000) := fun q hq => mv_at mv' hp hq
    have HOK := Lib.hid (matOk_mk mv)
    have HOQ := Lib.hid (matOk_mk mv')
    clear hp mv mv' hok
    rw [hlp, hlq]
    clear hlp hlq
    go_enter Tryz.func9, Tryz.ntmps9
    go_wp2_with fail
    refine (pairOf_ok N p A A' cap cap' zs ys _ n1 n2 p1 HP HLP HLQ HOK HOQ (ints_al (ints_al (ints_al hz _) _) _) (ints_al (ints_al (ints_al hy _) _) _)).mono ?_
    rintro e w1 ⟨g, h, rfl, hb1, hq1, hr1⟩
    have hb0 := below_on (below_a3 w _ _ _) hb1
    have rA : Blk w1 (w.heap.size + 1 + 1) 30 #[.int .i64 0, .slice none 0 0] := (blk_new (by simp)).below hb1 (by simp)
    obtain ⟨R, hRe⟩ : ∃ R, R = w.heap.size + 1 + 1 := ⟨_, rfl⟩
    rw [← hRe] at rA
    rw [← hRe]
    have hRg : w.heap.size ≤ R := by omega
    have RA := Lib.hid rA
    have HB := Lib.hid hb0
    have QA := Lib.hid hq1
    have PA := Lib.hid hr1
    unfold sqV
    clear hb1 hb0 rA hq1 hr1 hz hy hRe
    go_wp2_with fail
    refine (times_any N p g h zs ys _ n1 n2 HP HLP HLQ p1 HZB HYB ((QA.out.below (below_a1 w1 _)).below (below_a1 _ _)) ((PA.out.below (below_a1 w1 _)).below (below_a1 _ _))).mono ?_
    rintro e w2 ⟨g2, rfl, hb2, hg2, hq2⟩
    have HB2 := Lib.hid (below_on (below_al (below_al HB.out (Nat.le_refl _) _) (Nat.le_refl _) _) hb2)
    have R2 := Lib.hid (((RA.out.alloc _).alloc _).below hb2 (Blk.lt ((RA.out.alloc _).alloc _)))
    have Q2 := Lib.hid hq2
    clear hb2 hq2
    go_wp2_with fail
    refine (matrix_any N p g2 _ _ (show p = (mulL N zs ys).length by unfold mulL; rw [ofF_len]; exact HP.out) p1 Q2.out).mono ?_
    rintro e w3 ⟨_, rfl, ⟨x, rfl, ho, hl⟩, hb3⟩
    obtain ⟨A3, cap3, rfl, _, _⟩ := own_ints ho (by unfold maxLen; omega)
    have HB3 := Lib.hid (below_on HB2.out hb3)
    have R3 := Lib.hid (R2.out.below hb3 (Blk.lt R2.out))
    have HO := Lib.hid ho
    have hRw := Blk.lt R2.out
    obtain ⟨c0, c1⟩ := two_cells R3.out
    obtain ⟨f0, f1⟩ := two_frozen R3.out
    clear hb3 ho
    go_wp2_with fail
    have HF := mat_fin (w := w) (m := (N : Int)) R3.out HO.out hRw hRg HB3.out hl
    refine bodyPost_ret (results_2 rfl (gives_mat (g := R) rfl HF.1) (.tmp rfl)) rfl ?_
    exact MEnd.some_ HR.out HF.2.1 HF.2.2
  · have HR : Hid (mulR m zs m' ys = none) := by show _ = _; unfold mulR; rw [if_neg (by rw [hok]; decide)]
    have HOK := Lib.hid hok
    clear hok
    go_enter Tryz.func9, Tryz.ntmps9
    go_wp2_with fail
    refine (pairOf_no m m' A A' cap cap' zs ys _ (ints_al (ints_al (ints_al hz _) _) _) (ints_al (ints_al (ints_al hy _) _) _) HOK.out).mono ?_
    rintro e w1 ⟨rfl, hb1⟩
    have HB := Lib.hid (below_on (below_a3 w _ _ _) hb1)
    have rA : Blk w1 (w.heap.size + 1 + 1) 30 #[.int .i64 0, .slice none 0 0] := (blk_new (by simp)).below hb1 (by simp)
    obtain ⟨R, hRe⟩ : ∃ R, R = w.heap.size + 1 + 1 := ⟨_, rfl⟩
    rw [← hRe] at rA
    rw [← hRe]
    have hRg : w.heap.size ≤ R := by omega
    have RA := Lib.hid rA
    have c0 : ∀ o o', ((w1.alloc o).alloc o').cell? ⟨R, 0, none⟩ = some (.int .i64 0) := fun o o' => ((rA.alloc o).alloc o').cell 0
    have c1 : ∀ o o', ((w1.alloc o).alloc o').cell? ⟨R, 1, none⟩ = some (.slice none 0 0) := fun o o' => ((rA.alloc o).alloc o').cell 1
    have f0 : ∀ o o', ((w1.alloc o).alloc o').frozen? ⟨R, 0, none⟩ = false := fun o o' => ((rA.alloc o).alloc o').frozen 0
    have f1 : ∀ o o', ((w1.alloc o).alloc o').frozen? ⟨R, 1, none⟩ = false := fun o o' => ((rA.alloc o).alloc o').frozen 1
    have hne : R < w1.heap.size := Blk.lt rA
    have hne1 : ¬ R = w1.heap.size := by omega
    have hne2 : ¬ R = w1.heap.size + 1 := by omega
    obtain ⟨c0', c1'⟩ := two_cells rA
    obtain ⟨f0', f1'⟩ := two_frozen rA
    clear hb1 rA hRe
    go_wp2_with fail
    have B2 := (((RA.out.set_ 0 (.int .i64 0)).set_ 1 (.slice none 0 0)).alloc (.cells #[.nilFunc, .int .i64 0, .nilFunc, .int .i64 0, .int .i64 0, .slice none 0 0] 61)).alloc (.cells #[.nilFunc, .int .i64 0, .nilFunc, .int .i64 0, .int .i64 0, .slice none 0 0] 61)
    refine bodyPost_ret (results_2 rfl (gives_mat (g := R) rfl B2) (.tmp rfl)) rfl ?_
    exact MEnd.none_ HR.out (below_al (below_al ((HB.out.setCell (p := ⟨R, 0, none⟩) hRg (.int .i64 0)).setCell (p := ⟨R, 1, none⟩) hRg (.slice none 0 0)) (Nat.le_refl _) _) (Nat.le_refl _) _)
end Go.Proofs.YtjhaegkefagngaaGreatDoor
namespace Go.Proofs.YtjhaegkefagngaaGreatDoor
open Go.RowKit
set_option maxHeartbeats 1000000
set_option linter.unusedVariables false

/-- A row of numbers that is somebody's own. -/
abbrev OwnI (w : World) (A : Option Addr) (cap : Nat) (zs : List Int) : Prop := w.ownsRow 0 3 1 (.slice A zs.length cap) zs.length (zs.map (Value.int .i64))
theorem OwnI.ints {w : World} {A : Option Addr} {cap : Nat} {zs : List Int} (h : OwnI w A cap zs) (hl : zs.length ≤ 1048577) : Ints w w.heap.size A zs := by
  obtain ⟨_, _, he, _, hi⟩ := own_ints h (by unfold maxLen; omega)
  cases he; exact hi

abbrev MO (A : Option Addr) (cap : Nat) (m : Int) (zs : List Int) : Obj := .cells #[.int .i64 m, .slice A zs.length cap] 30
/-- The variable in block g holds the matrix of size m whose numbers lie behind this slice. -/
def VA (w : World) (g : Nat) (A : Option Addr) (cap : Nat) (m : Int) (zs : List Int) : Prop :=
  Blk w g 30 #[.int .i64 m, .slice A zs.length cap] ∧ OwnI w A cap zs ∧ zs.length ≤ 1048577
theorem VA.below {w w' : World} {g cap : Nat} {A : Option Addr} {m : Int} {zs : List Int} (h : VA w g A cap m zs) (hb : Below w.heap.size w w') : VA w' g A cap m zs := ⟨blk_b h.1 hb, own_under h.2.1 hb, h.2.2⟩
theorem VA.al {w : World} {g cap : Nat} {A : Option Addr} {m : Int} {zs : List Int} (h : VA w g A cap m zs) (o : Obj) : VA (w.alloc o) g A cap m zs := h.below (below_a1 w o)
theorem VA.lt {w : World} {g cap : Nat} {A : Option Addr} {m : Int} {zs : List Int} (h : VA w g A cap m zs) : g < w.heap.size := Blk.lt h.1
theorem VA.cells {w : World} {g cap : Nat} {A : Option Addr} {m : Int} {zs : List Int} (h : VA w g A cap m zs) : w.cell? ⟨g, 0, none⟩ = some (.int .i64 m) ∧ w.cell? ⟨g, 1, none⟩ = some (.slice A zs.length cap) := two_cells h.1
theorem VA.new {w : World} {g cap : Nat} {A : Option Addr} {m : Int} {zs : List Int} (hg : g = w.heap.size) (ho : OwnI w A cap zs) (hl : zs.length ≤ 1048577) : VA (w.alloc (MO A cap m zs)) g A cap m zs := by
  subst hg; exact ⟨Blk.new _ _ _, ho.alloc _, hl⟩
theorem own_set {w : World} {k i cap : Nat} {A : Option Addr} {zs : List Int} {cs : Array Value} (ho : OwnI w A cap zs) (hk : Blk w k 30 cs) (v : Value) : OwnI (w.setCell ⟨k, i, none⟩ v) A cap zs := by
  refine ho.kept (grow_set w k i v) ?_
  have := own_other ho hk (by decide)
  rcases h0 : (Value.slice A zs.length cap).ownBlock with _ | j
  · exact Or.inl rfl
  · right; intro he; exact this (by rw [h0]; exact he.symm)
theorem VA.set2 {w : World} {g k cap : Nat} {A : Option Addr} {m : Int} {zs : List Int} {u0 u1 : Value} (h : VA w g A cap m zs) (hk : Blk w k 30 #[u0, u1]) (hne : ¬ k = g) (v0 v1 : Value) : VA ((w.setCell ⟨k, 0, none⟩ v0).setCell ⟨k, 1, none⟩ v1) g A cap m zs :=
  ⟨(h.1.other k 0 v0 hne).other k 1 v1 hne, own_set (own_set h.2.1 hk v0) (hk.set_ 0 v0) v1, h.2.2⟩
theorem VA.put {w : World} {k cap : Nat} {A : Option Addr} {m : Int} {zs : List Int} {u0 u1 : Value} (ho : OwnI w A cap zs) (hl : zs.length ≤ 1048577) (hk : Blk w k 30 #[u0, u1]) : VA ((w.setCell ⟨k, 0, none⟩ (.int .i64 m)).setCell ⟨k, 1, none⟩ (.slice A zs.length cap)) k A cap m zs :=
  ⟨(hk.set_ 0 _).set_ 1 _, own_set (own_set ho hk _) (hk.set_ 0 _) _, hl⟩

end Go.Proofs.YtjhaegkefagngaaGreatDoor
namespace Go.Proofs.YtjhaegkefagngaaGreatDoor
open Go.RowKit
set_option maxHeartbeats 1000000
set_option maxRecDepth 100000
set_option linter.unusedVariables false

/-- What a function leaves that returns a matrix, put for a walk (its size under a name of its own: two equal values in two blocks stall the walk). -/
def REnd (m : Int) (zs : List Int) (ok : Bool) (w : World) (e : Ending) (w' : World) : Prop :=
  ∃ (k : Int) (A : Option Addr) (cap : Nat), e = .returned (.tuple #[.agg #[.int .i64 k, .slice A zs.length cap], .bool ok]) ∧ Hid (k = m) ∧ Hid (OwnI w' A cap zs) ∧ zs.length ≤ 1048577 ∧ Hid (Below w.heap.size w w')
theorem MEnd.form {r : Option (Int × List Int)} {w w' : World} {e : Ending} {m : Int} {zs : List Int} {ok : Bool} (h : MEnd r w e w') (h1 : (r.getD (0, [])).1 = m) (h2 : (r.getD (0, [])).2 = zs) (h3 : r.isSome = ok) : REnd m zs ok w e w' := by
  obtain ⟨v, rfl, ⟨x, rfl, ho, hl⟩, hb⟩ := h
  rw [h2] at ho hl
  obtain ⟨A, cap, rfl, _, _⟩ := own_ints ho (by unfold maxLen; omega)
  rw [h3]
  exact ⟨_, A, cap, rfl, h1, own_base ho (Nat.zero_le _), hl, hb⟩
theorem iMul_r (m m' mr : Int) (zs ys rs : List Int) (ok : Bool) (A A' : Option Addr) (cap cap' : Nat) (w : World) (hz : OwnI w A cap zs) (hy : OwnI w A' cap' ys) (hl : zs.length ≤ 1048577) (hl' : ys.length ≤ 1048577) (h1 : ((mulR m zs m' ys).getD (0, [])).1 = mr) (h2 : ((mulR m zs m' ys).getD (0, [])).2 = rs) (h3 : (mulR m zs m' ys).isSome = ok) :
    Calls Tryz.prog 9 #[.agg #[.int .i64 m, .slice A zs.length cap], .agg #[.int .i64 m', .slice A' ys.length cap']] w fun e w' => REnd mr rs ok w e w' :=
  (iMul_any m m' A A' cap cap' zs ys w (hz.ints hl) (hy.ints hl')).mono fun e w' h => h.form h1 h2 h3
theorem iUnit_r (m mr : Int) (rs : List Int) (ok : Bool) (w : World) (h1 : ((unitR m).getD (0, [])).1 = mr) (h2 : ((unitR m).getD (0, [])).2 = rs) (h3 : (unitR m).isSome = ok) :
    Calls Tryz.prog 15 #[.int .i64 m] w fun e w' => REnd mr rs ok w e w' :=
  (iUnit_any m w).mono fun e w' h => h.form h1 h2 h3
theorem iValid_r (m : Int) (zs : List Int) (ok : Bool) (A : Option Addr) (cap : Nat) (w : World) (hz : OwnI w A cap zs) (hl : zs.length ≤ 1048577) (h1 : matOk m zs = ok) :
    Calls Tryz.prog 33 #[.agg #[.int .i64 m, .slice A zs.length cap]] w fun e w' => e = .returned (.bool ok) ∧ Hid (Below w.heap.size w w') :=
  (iMatrixValid_is m A cap zs ok w (hz.ints hl) h1).mono fun e w' h => h

theorem da_loop (A A' : Option Addr) (cap cap' B B' : Nat) (zs : List Int) (w : World) (hz : Ints w B A zs) (hy : Ints w B' A' zs) :
    Calls Tryz.prog 12 #[.slice A zs.length cap, .slice A' zs.length cap'] w fun e w' => e = .returned (.bool true) ∧ ∃ m, w' = w.drewN m := by
  have hl := hz.len
  go_enter Tryz.func12, Tryz.ntmps12
  go_wp2
  go_loopw [11] (fun i wr => ∃ (k m : Nat), k ≤ zs.length ∧ i = .int .i64 k ∧ wr = w.drewN m) (fun i _ => zs.length - (intOf i).toNat)
  case atStart => exact ⟨0, 0, Nat.zero_le _, rfl, rfl⟩
  case round =>
    obtain ⟨k, m, hk, rfl, rfl⟩ := hrel
    by_cases hlt : k < zs.length
    · obtain ⟨b, off, z, rfl, hbB, hc, hd, hg⟩ := hz.at_ hlt
      obtain ⟨b', off', y, rfl, hbB', hc', hd', hg'⟩ := hy.at_ hlt
      have ezy : y = z := hg'.symm.trans hg
      subst ezy
      clear hd hg hd' hg'
      have hi0 : (0 : Int) ≤ (k : Int) := by omega
      have hi1 : (k : Int) < (zs.length : Int) := by omega
      go_wp2
      go_quiet (fail)
      go_wp2
      go_roundw
      case rel => exact ⟨k + 1, _, by omega, by go_num, rfl⟩
      case measure => simp [intOf]; omega
    · go_wp2
      go_ret
      exact ⟨rfl, _, rfl⟩
theorem da_r (k k' : Int) (zs : List Int) (A A' : Option Addr) (cap cap' : Nat) (w : World) (hk : k = k') (hz : OwnI w A cap zs) (hy : OwnI w A' cap' zs) (hl : zs.length ≤ 1048577) :
    Calls Tryz.prog 8 #[.agg #[.int .i64 k, .slice A zs.length cap], .agg #[.int .i64 k', .slice A' zs.length cap']] w fun e w' => e = .returned (.bool true) ∧ Hid (Below w.heap.size w w') := by
  subst hk
  have HZ := Lib.hid (hz.ints hl)
  have HY := Lib.hid (hy.ints hl)
  clear hz hy
  go_enter Tryz.func8, Tryz.ntmps8
  go_wp2_with fail
  refine (da_loop _ _ _ _ _ _ _ _ (ints_al (ints_al HZ.out _) _) (ints_al (ints_al HY.out _) _)).mono ?_
  rintro e w' ⟨rfl, k, rfl⟩
  go_wp2_with fail
  go_ret
  exact ⟨rfl, Lib.hid (⟨rfl, rfl, rfl, by simp; omega, fun j hj => (below_a2 w _ _).block j hj⟩)⟩
end Go.Proofs.YtjhaegkefagngaaGreatDoor
