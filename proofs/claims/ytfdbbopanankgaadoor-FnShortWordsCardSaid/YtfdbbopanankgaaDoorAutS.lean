/- AutomatonValid, the program's: the plain function of its numbers and letters; nothing that was there changes. No condition. AutomatonValid, the model's: the plain function of its numbers and letters; nothing that was there changes. No condition. -/
import Derived.Test.YtfdbbopanankgaaDoorValD
import Derived.Test.YtfdbbopanankgaaDoorLastOp
import Derived.IntWalk
import Derived.Deep.DeepCutAuto
namespace Go.Proofs.YtfdbbopanankgaaDoor
open Go.RowKit
set_option maxHeartbeats 8000000
set_option maxRecDepth 100000
set_option linter.unusedVariables false

def stepsF (n : Int) : Option StepD → List StepD → Bool
  | _, [] => true
  | none, s :: r => stepOk n s && stepsF n (some s) r
  | some q, s :: r => stepOk n s && (befS q s && stepsF n (some s) r)
def autoOk (m : Int) (xs ys : List Int) (ss : List StepD) : Bool := decide (1 ≤ m ∧ m ≤ 4) && (marksF m (-1) xs && (marksF m (-1) ys && (decide (ss.length ≤ 24) && stepsF m none ss)))
/-- The step ahead of place k. -/
def prevO (ss : List StepD) : Nat → Option StepD
  | 0 => none
  | j + 1 => some (ss.getD j default)
theorem befS_ge {s t : StepD} (h : befS s t = true) : ¬ 0 ≤ cmpS s t ∧ decide (0 ≤ cmpS s t) = false := by
  unfold befS at h
  have := of_decide_eq_true h
  exact ⟨by omega, decide_eq_false (by omega)⟩
theorem befS_lt {s t : StepD} (h : befS s t = false) : 0 ≤ cmpS s t ∧ decide (0 ≤ cmpS s t) = true := by
  unfold befS at h
  have := of_decide_eq_false h
  exact ⟨by omega, decide_eq_true (by omega)⟩
theorem stepOk_l {n : Int} {s : StepD} (h : stepOk n s = true) : IsL s.le := by
  unfold stepOk at h
  simp only [Bool.and_eq_true] at h
  exact isL_of h.2.2.1

theorem iAutomatonValid_is (m : Int) (A1 A2 A3 : Option Addr) (c1 c2 c3 : Nat) (xs ys : List Int) (ss : List StepD) (r : Bool) (w : World) (hx : Ints w w.heap.size A1 xs) (hy : Ints w w.heap.size A2 ys) (hs : SRow w w.heap.size A3 ss) (hr : autoOk m xs ys ss = r) :
    Calls Tryd.prog 45 #[.agg #[.int .i64 m, .slice A1 xs.length c1, .slice A2 ys.length c2, .slice A3 ss.length c3]] w fun e w' => e = .returned (.bool r) ∧ Hid (Below w.heap.size w w') := by
  have hl := hs.1
  have HX := Lib.hid (ints_al hx (.cells #[.int .i64 m, .slice A1 xs.length c1, .slice A2 ys.length c2, .slice A3 ss.length c3] 26))
  have HY := Lib.hid (ints_al hy (.cells #[.int .i64 m, .slice A1 xs.length c1, .slice A2 ys.length c2, .slice A3 ss.length c3] 26))
  have HS := Lib.hid hs
  have K0 := Lib.hid (Blk.new w 26 #[.int .i64 m, .slice A1 xs.length c1, .slice A2 ys.length c2, .slice A3 ss.length c3])
  have B0 := Lib.hid (below_a1 w (.cells #[.int .i64 m, .slice A1 xs.length c1, .slice A2 ys.length c2, .slice A3 ss.length c3] 26))
  unfold autoOk at hr
  clear hx hy hs
  by_cases hm : 1 ≤ m ∧ m ≤ 4
  rotate_left
  · have e : r = false := by rw [← hr, decide_eq_false hm]; rfl
    subst e
    clear hr
    go_enter Tryd.func45, Tryd.ntmps45
    go_wp2_with fail
    refine (sizeValid_f _ _ hm).mono ?_
    rintro e w' ⟨rfl, rfl⟩
    go_wp2_with fail
    go_ret
    exact ⟨rfl, B0.out⟩
  obtain ⟨m1, m2⟩ := hm
  obtain ⟨bx, hbx⟩ : ∃ b, marksF m (-1) xs = b := ⟨_, rfl⟩
  obtain ⟨by_, hby⟩ : ∃ b, marksF m (-1) ys = b := ⟨_, rfl⟩
  rw [decide_eq_true ⟨m1, m2⟩, hbx, hby, Bool.true_and] at hr
  have HR := Lib.hid hr
  have HQX := Lib.hid hbx
  have HQY := Lib.hid hby
  clear hr hbx hby
  go_enter Tryd.func45, Tryd.ntmps45
  go_wp2_with fail
  refine (sizeValid_t _ _ m1 m2).mono ?_
  rintro e w' ⟨rfl, rfl⟩
  go_wp2_with fail
  refine (listValid_is _ _ _ _ _ bx _ HX.out HQX.out).mono ?_
  rintro e w' ⟨rfl, rfl⟩
  rcases Bool.eq_false_or_eq_true bx with h | h
  all_goals subst h
  rotate_left
  · have e : r = false := by rw [← HR.out]; rfl
    subst e
    go_wp2_with fail
    go_ret
    exact ⟨rfl, B0.out⟩
  go_wp2_with fail
  refine (listValid_is _ _ _ _ _ by_ _ HY.out HQY.out).mono ?_
  rintro e w' ⟨rfl, rfl⟩
  rcases Bool.eq_false_or_eq_true by_ with h | h
  all_goals subst h
  rotate_left
  · have e : r = false := by rw [← HR.out]; rfl
    subst e
    go_wp2_with fail
    go_ret
    exact ⟨rfl, B0.out⟩
  by_cases h24 : ss.length ≤ 24
  rotate_left
  · have e : r = false := by rw [← HR.out, decide_eq_false h24]; rfl
    subst e
    have h24' : (24 : Int) < (ss.length : Int) := by omega
    go_wp2_with fail
    go_ret
    exact ⟨rfl, B0.out⟩
  have HR2 : Hid (r = stepsF m none ss) := by show _ = _; rw [← HR.out, decide_eq_true h24]; rfl
  have h24' : ¬ (24 : Int) < (ss.length : Int) := by omega
  clear HR HX HY
  go_wp2_with fail
  go_loopw [34] (fun i wr => ∃ (k : Nat), k ≤ ss.length ∧ i = .int .i64 k ∧ Hid (Below w.heap.size w wr) ∧ Hid (Blk wr w.heap.size 26 #[.int .i64 m, .slice A1 xs.length c1, .slice A2 ys.length c2, .slice A3 ss.length c3]) ∧ Hid (r = stepsF m (prevO ss k) (ss.drop k)) ∧ Hid (∀ j, k = j + 1 → stepOk m (ss.getD j default) = true)) (fun i _ => ss.length - (intOf i).toNat)
  case atStart => exact ⟨0, Nat.zero_le _, rfl, B0.out, K0.out, HR2.out, fun j hj => absurd hj (by omega)⟩
  case round =>
    obtain ⟨k, hk, rfl, hbw, hkw, hrr, hpv⟩ := hrel
    clear B0 K0 HR2
    by_cases hlt : k < ss.length
    rotate_left
    · have e : r = true := by rw [hrr.out, List.drop_of_length_le (by omega)]; cases k <;> rfl
      subst e
      go_wp2_with fail
      go_ret
      exact ⟨rfl, hbw.out⟩
    obtain ⟨b, off, s, rfl, hbB, hat, hsz, hd, hg⟩ := HS.out.at_ hlt
    obtain ⟨q0, q1, q2, q3⟩ := hat.below hbw.out hbB
    obtain ⟨bo, hbo⟩ : ∃ b, stepOk m s = b := ⟨_, rfl⟩
    have HBO := Lib.hid hbo
    have HD := Lib.hid hd
    have HG := Lib.hid hg
    have B1 := Lib.hid (below_al hbw.out (Nat.le_refl _) (.cells #[.int .i64 s.fr, .string s.le, .int .i64 s.to_, .int .i64 s.co] 75))
    have K1 := Lib.hid (hkw.out.alloc (.cells #[.int .i64 s.fr, .string s.le, .int .i64 s.to_, .int .i64 s.co] 75))
    have V1 := Lib.hid (Blk.new wr 75 #[.int .i64 s.fr, .string s.le, .int .i64 s.to_, .int .i64 s.co])
    clear hbo hd hg hat hbw hkw
    obtain ⟨bd, hbd⟩ : ∃ bd, r = (!bd && stepsF m (some s) (ss.drop (k + 1))) ∧ (bd = false → bo = true) ∧ (bo = false → bd = true) ∧ (k = 0 → bd = !bo) ∧ ∀ j, k = j + 1 → bd = !(bo && befS (ss.getD j default) s) := by
      rcases k with _ | j
      · refine ⟨!bo, ?_, by cases bo <;> simp, by cases bo <;> simp, fun _ => rfl, fun j hj => absurd hj (by omega)⟩
        rw [hrr.out, HD.out, prevO, stepsF, HBO.out]; cases bo <;> rfl
      · refine ⟨!(bo && befS (ss.getD j default) s), ?_, by cases bo <;> simp, by cases bo <;> simp, fun h => absurd h (by omega), fun i hi => by rw [show i = j from by omega]⟩
        rw [hrr.out, HD.out, prevO, stepsF, HBO.out]; cases bo <;> cases befS (ss.getD j default) s <;> rfl
    have HBD := Lib.hid hbd
    clear hbd
    obtain ⟨W, hW⟩ : ∃ W, W = wr.alloc (.cells #[.int .i64 s.fr, .string s.le, .int .i64 s.to_, .int .i64 s.co] 75) := ⟨_, rfl⟩
    obtain ⟨V, hV⟩ : ∃ V, V = wr.heap.size := ⟨_, rfl⟩
    have HWE := Lib.hid hW
    have HVE := Lib.hid hV
    rw [← hW] at B1 K1 V1
    rw [← hV] at V1
    clear hW hV
    go_upto_region 6 with fail
    rw [← HVE.out, ← HWE.out]
    clear HVE HWE q0 q1 q2 q3
    go_cut [58] (fun c wx => c = .bool bd ∧ Hid (Below w.heap.size w wx) ∧ Hid (Blk wx w.heap.size 26 #[.int .i64 m, .slice A1 xs.length c1, .slice A2 ys.length c2, .slice (some ⟨b, off, none⟩) ss.length c3]))
    case first =>
      have hi0 : (0 : Int) ≤ (k : Int) := by omega
      have hi1 : (k : Int) < (ss.length : Int) := by omega
      rcases Bool.eq_false_or_eq_true bo with hbo | hbo
      · rcases Nat.eq_zero_or_pos k with hkk | hkk
        · have e : bd = false := by rw [HBD.out.2.2.2.1 hkk, hbo]; rfl
          have k0 : ¬ 0 < k := by omega
          have k0' : ¬ (0 : Int) < (k : Int) := by omega
          have k0b : decide (0 < k) = false := decide_eq_false k0
          have k0c : decide ((0 : Int) < (k : Int)) = false := decide_eq_false k0'
          clear hkk
          subst e
          subst hbo
          have KS : Hid (∀ w', Below W.heap.size W w' → (Hid (Below W.heap.size W w') ∧ w'.cell? ⟨w.heap.size, 0, none⟩ = some (.int .i64 m) ∧ w'.cell? ⟨V, 0, none⟩ = some (.int .i64 s.fr) ∧ w'.cell? ⟨V, 1, none⟩ = some (.string s.le) ∧ w'.cell? ⟨V, 2, none⟩ = some (.int .i64 s.to_) ∧ w'.cell? ⟨V, 3, none⟩ = some (.int .i64 s.co))) := fun w' h => by
            have a := blk_b K1.out h
            have v := blk_b V1.out h
            exact ⟨h, a.cell 0, v.cell 0, v.cell 1, v.cell 2, v.cell 3⟩
          have hS0 := KS.out W.drew ((Below.refl _ _).drew)
          refine wp_region_Z (S := fun w' => Hid (Below W.heap.size W w') ∧ w'.cell? ⟨w.heap.size, 0, none⟩ = some (.int .i64 m) ∧ w'.cell? ⟨V, 0, none⟩ = some (.int .i64 s.fr) ∧ w'.cell? ⟨V, 1, none⟩ = some (.string s.le) ∧ w'.cell? ⟨V, 2, none⟩ = some (.int .i64 s.to_) ∧ w'.cell? ⟨V, 3, none⟩ = some (.int .i64 s.co)) (by kernel_rfl) hS0 (fun hS => ?_)
          clear hS0
          refine wpAnyZ_take (i := 0) (v := ?vap0) rfl (by kernel_rfl) (by kernel_rfl) (by kernel_rfl) (by kernel_rfl) (fun _ _ _ h => h) (Or.inl ⟨by kernel_rfl, ?yap0⟩) (by with_reducible assumption) ?rap0
          case yap0 => (intro w hSw; (try dsimp only at hSw); go_simp; (try with_reducible rfl))
          simp only [Act.put, List.setIfInBounds_toArray]
          refine wpAnyZ_take (i := 1) (v := ?vap1) rfl (by kernel_rfl) (by kernel_rfl) (by kernel_rfl) (by kernel_rfl) (fun _ _ _ h => h) (Or.inl ⟨by kernel_rfl, ?yap1⟩) (by with_reducible assumption) ?rap1
          case yap1 => (intro w hSw; (try dsimp only at hSw); go_simp; (try with_reducible rfl))
          simp only [Act.put]
          refine wpAnyZ_take (i := 2) (v := ?vap2) rfl (by kernel_rfl) (by kernel_rfl) (by kernel_rfl) (by kernel_rfl) (fun _ _ _ h => h) (Or.inl ⟨by kernel_rfl, ?yap2⟩) (by with_reducible assumption) ?rap2
          case yap2 => (intro w hSw; (try dsimp only at hSw); go_simp; (try with_reducible rfl))
          simp only [Act.put]
          refine wpAnyZ_step (i := 3) (by kernel_rfl) rfl ?_
          intro K3 hK3
          go_simp
          refine (stepValid_is s m _ _ HBO.out).mono ?_
          rintro e w5 ⟨rfl, hb5⟩
          have hS1a := KS.out _ (below_on hS.1.out hb5.out)
          refine hK3.out _ _ hS1a (fun hS1 => ?_)
          clear hS1a hS
          clear hK3
          (try simp only [Act.put])
          refine wpAnyZ_take (i := 4) (v := ?vaq4) rfl (by kernel_rfl) (by kernel_rfl) (by kernel_rfl) (by kernel_rfl) (fun _ _ _ h => h) (Or.inl ⟨by kernel_rfl, ?yaq4⟩) (by with_reducible assumption) ?raq4
          case yaq4 => (intro w hSw; (try dsimp only at hSw); go_simp; (try with_reducible rfl))
          simp only [Act.put]
          refine wpAnyZ_take (i := 5) (v := ?vaq5) rfl (by kernel_rfl) (by kernel_rfl) (by kernel_rfl) (by kernel_rfl) (fun _ _ _ h => h) (Or.inl ⟨by kernel_rfl, ?yaq5⟩) (by with_reducible assumption) ?raq5
          case yaq5 => (intro w hSw; (try dsimp only at hSw); go_simp; (try with_reducible rfl))
          simp only [Act.put]
          refine wpAnyZ_take (i := 6) (v := ?vaq6) rfl (by kernel_rfl) (by kernel_rfl) (by kernel_rfl) (by kernel_rfl) (fun _ _ _ h => h) (Or.inl ⟨by kernel_rfl, ?yaq6⟩) (by with_reducible assumption) ?raq6
          case yaq6 => (intro w hSw; (try dsimp only at hSw); go_simp; (try with_reducible rfl))
          simp only [Act.put]
          refine wpAnyZ_take (i := 7) (v := ?vaq7) rfl (by kernel_rfl) (by kernel_rfl) (by kernel_rfl) (by kernel_rfl) (fun _ _ _ h => h) (Or.inl ⟨by kernel_rfl, ?yaq7⟩) (by with_reducible assumption) ?raq7
          case yaq7 => (intro w hSw; (try dsimp only at hSw); go_simp; (try with_reducible rfl))
          simp only [Act.put]
          refine wpAnyZ_take (i := 8) (v := ?vaq8) rfl (by kernel_rfl) (by kernel_rfl) (by kernel_rfl) (by kernel_rfl) (fun _ _ _ h => h) (Or.inl ⟨by kernel_rfl, ?yaq8⟩) (by with_reducible assumption) ?raq8
          case yaq8 => (intro w hSw; (try dsimp only at hSw); go_simp; (try with_reducible rfl))
          simp only [Act.put]
          refine wpAnyZ_take (i := 9) (v := undef) rfl (by kernel_rfl) (by kernel_rfl) (by kernel_rfl) (by kernel_rfl) (fun _ _ _ h => h) (Or.inr ⟨by kernel_rfl, rfl⟩) (by with_reducible assumption) ?ra9
          simp only [Act.put]
          refine wpAnyZ_take (i := 10) (v := undef) rfl (by kernel_rfl) (by kernel_rfl) (by kernel_rfl) (by kernel_rfl) (fun _ _ _ h => h) (Or.inr ⟨by kernel_rfl, rfl⟩) (by with_reducible assumption) ?ra10
          simp only [Act.put]
          refine wpAnyZ_take (i := 11) (v := undef) rfl (by kernel_rfl) (by kernel_rfl) (by kernel_rfl) (by kernel_rfl) (fun _ _ _ h => h) (Or.inr ⟨by kernel_rfl, rfl⟩) (by with_reducible assumption) ?ra11
          simp only [Act.put]
          refine wpAnyZ_take (i := 12) (v := undef) rfl (by kernel_rfl) (by kernel_rfl) (by kernel_rfl) (by kernel_rfl) (fun _ _ _ h => h) (Or.inr ⟨by kernel_rfl, rfl⟩) (by with_reducible assumption) ?ra12
          simp only [Act.put]
          refine wpAnyZ_take (i := 13) (v := undef) rfl (by kernel_rfl) (by kernel_rfl) (by kernel_rfl) (by kernel_rfl) (fun _ _ _ h => h) (Or.inr ⟨by kernel_rfl, rfl⟩) (by with_reducible assumption) ?ra13
          simp only [Act.put]
          refine wpAnyZ_take (i := 14) (v := undef) rfl (by kernel_rfl) (by kernel_rfl) (by kernel_rfl) (by kernel_rfl) (fun _ _ _ h => h) (Or.inr ⟨by kernel_rfl, rfl⟩) (by with_reducible assumption) ?ra14
          simp only [Act.put]
          refine wpAnyZ_take (i := 15) (v := undef) rfl (by kernel_rfl) (by kernel_rfl) (by kernel_rfl) (by kernel_rfl) (fun _ _ _ h => h) (Or.inr ⟨by kernel_rfl, rfl⟩) (by with_reducible assumption) ?ra15
          simp only [Act.put]
          refine wpAnyZ_take (i := 16) (v := undef) rfl (by kernel_rfl) (by kernel_rfl) (by kernel_rfl) (by kernel_rfl) (fun _ _ _ h => h) (Or.inr ⟨by kernel_rfl, rfl⟩) (by with_reducible assumption) ?ra16
          simp only [Act.put]
          refine wpAnyZ_take (i := 17) (v := undef) rfl (by kernel_rfl) (by kernel_rfl) (by kernel_rfl) (by kernel_rfl) (fun _ _ _ h => h) (Or.inr ⟨by kernel_rfl, rfl⟩) (by with_reducible assumption) ?ra17
          simp only [Act.put]
          refine wpAnyZ_take (i := 18) (v := ?vas18) rfl (by kernel_rfl) (by kernel_rfl) (by kernel_rfl) (by kernel_rfl) (fun _ _ _ h => h) (Or.inl ⟨by kernel_rfl, ?yas18⟩) (by with_reducible assumption) ?ras18
          case yas18 => (intro w hSw; (try dsimp only at hSw); go_simp; (try with_reducible rfl))
          simp only [Act.put]
          refine wpAnyZ_last (i := 19) (by kernel_rfl) rfl (by kernel_rfl) ?_
          intro K19 hK19
          go_simp
          refine hK19.out _ _ ?_
          clear hK19
          go_wp2_with fail
          go_meet
          exact ⟨rfl, Lib.hid (below_on B1.out hS1.1.out), Lib.hid (blk_b K1.out hS1.1.out)⟩
        · obtain ⟨j, rfl⟩ : ∃ j, k = j + 1 := ⟨k - 1, by omega⟩
          clear hkk
          obtain ⟨b', off', p, hbe, hbB', hatp, _, _, hgp⟩ := HS.out.at_ (k := j) (by omega)
          cases hbe
          obtain ⟨bf, hbf⟩ : ∃ bf, befS p s = bf := ⟨_, rfl⟩
          have hbde : bd = !bf := by rw [HBD.out.2.2.2.2 j rfl, hgp, hbo, hbf]; rfl
          have HP := Lib.hid (show stepOk m p = true by rw [← hgp]; exact hpv.out j rfl)
          subst hbo
          have HBF := Lib.hid hbf
          have HAT := Lib.hid (hatp.below (w' := W) B1.out hbB')
          have hbW : b < W.heap.size := Nat.lt_of_lt_of_le hbB' B1.out.size
          have hk0 : (0 : Int) < ((j + 1 : Nat) : Int) := by omega
          have hj1 : ((j + 1 : Nat) : Int) - 1 = (j : Int) := by omega
          have hj2 : (0 : Int) ≤ (j : Int) := by omega
          have hj3 : (j : Int) < (ss.length : Int) := by omega
          have hjw : IntKind.i64.wrap ((j : Nat) : Int) = (j : Int) := IntWalk.i64_in _ (by omega)
          clear hatp hgp hbf
          have KS : Hid (∀ w', Below W.heap.size W w' → (Hid (Below W.heap.size W w') ∧ w'.cell? ⟨w.heap.size, 0, none⟩ = some (.int .i64 m) ∧ w'.cell? ⟨w.heap.size, 3, none⟩ = some (.slice (some ⟨b, off, none⟩) ss.length c3) ∧ w'.cell? ⟨V, 0, none⟩ = some (.int .i64 s.fr) ∧ w'.cell? ⟨V, 1, none⟩ = some (.string s.le) ∧ w'.cell? ⟨V, 2, none⟩ = some (.int .i64 s.to_) ∧ w'.cell? ⟨V, 3, none⟩ = some (.int .i64 s.co) ∧ w'.cell? ⟨b, off + j * 4, none⟩ = some (.int .i64 p.fr) ∧ w'.cell? ⟨b, off + j * 4 + 1, none⟩ = some (.string p.le) ∧ w'.cell? ⟨b, off + j * 4 + 2, none⟩ = some (.int .i64 p.to_) ∧ w'.cell? ⟨b, off + j * 4 + 3, none⟩ = some (.int .i64 p.co))) := fun w' h => by
            have a := blk_b K1.out h
            have v := blk_b V1.out h
            obtain ⟨u0, u1, u2, u3⟩ := HAT.out.below h hbW
            exact ⟨h, a.cell 0, a.cell 3, v.cell 0, v.cell 1, v.cell 2, v.cell 3, u0, u1, u2, u3⟩
          have hS0 := KS.out W.drew ((Below.refl _ _).drew)
          rcases Bool.eq_false_or_eq_true bf with hbf | hbf
          · subst hbf
            obtain ⟨g1, g2⟩ := befS_ge HBF.out
            refine wp_region_Z (S := fun w' => Hid (Below W.heap.size W w') ∧ w'.cell? ⟨w.heap.size, 0, none⟩ = some (.int .i64 m) ∧ w'.cell? ⟨w.heap.size, 3, none⟩ = some (.slice (some ⟨b, off, none⟩) ss.length c3) ∧ w'.cell? ⟨V, 0, none⟩ = some (.int .i64 s.fr) ∧ w'.cell? ⟨V, 1, none⟩ = some (.string s.le) ∧ w'.cell? ⟨V, 2, none⟩ = some (.int .i64 s.to_) ∧ w'.cell? ⟨V, 3, none⟩ = some (.int .i64 s.co) ∧ w'.cell? ⟨b, off + j * 4, none⟩ = some (.int .i64 p.fr) ∧ w'.cell? ⟨b, off + j * 4 + 1, none⟩ = some (.string p.le) ∧ w'.cell? ⟨b, off + j * 4 + 2, none⟩ = some (.int .i64 p.to_) ∧ w'.cell? ⟨b, off + j * 4 + 3, none⟩ = some (.int .i64 p.co)) (by kernel_rfl) hS0 (fun hS => ?_)
            clear hS0
            refine wpAnyZ_take (i := 0) (v := ?vbp0) rfl (by kernel_rfl) (by kernel_rfl) (by kernel_rfl) (by kernel_rfl) (fun _ _ _ h => h) (Or.inl ⟨by kernel_rfl, ?ybp0⟩) (by with_reducible assumption) ?rbp0
            case ybp0 => (intro w hSw; (try dsimp only at hSw); go_simp; (try with_reducible rfl))
            simp only [Act.put, List.setIfInBounds_toArray]
            refine wpAnyZ_take (i := 1) (v := ?vbp1) rfl (by kernel_rfl) (by kernel_rfl) (by kernel_rfl) (by kernel_rfl) (fun _ _ _ h => h) (Or.inl ⟨by kernel_rfl, ?ybp1⟩) (by with_reducible assumption) ?rbp1
            case ybp1 => (intro w hSw; (try dsimp only at hSw); go_simp; (try with_reducible rfl))
            simp only [Act.put]
            refine wpAnyZ_take (i := 2) (v := ?vbp2) rfl (by kernel_rfl) (by kernel_rfl) (by kernel_rfl) (by kernel_rfl) (fun _ _ _ h => h) (Or.inl ⟨by kernel_rfl, ?ybp2⟩) (by with_reducible assumption) ?rbp2
            case ybp2 => (intro w hSw; (try dsimp only at hSw); go_simp; (try with_reducible rfl))
            simp only [Act.put]
            refine wpAnyZ_step (i := 3) (by kernel_rfl) rfl ?_
            intro K3 hK3
            go_simp
            refine (stepValid_is s m _ _ HBO.out).mono ?_
            rintro e w5 ⟨rfl, hb5⟩
            have hS1a := KS.out _ (below_on hS.1.out hb5.out)
            refine hK3.out _ _ hS1a (fun hS1 => ?_)
            clear hS1a hS
            clear hK3
            (try simp only [Act.put])
            refine wpAnyZ_take (i := 4) (v := ?vbq4) rfl (by kernel_rfl) (by kernel_rfl) (by kernel_rfl) (by kernel_rfl) (fun _ _ _ h => h) (Or.inl ⟨by kernel_rfl, ?ybq4⟩) (by with_reducible assumption) ?rbq4
            case ybq4 => (intro w hSw; (try dsimp only at hSw); go_simp; (try with_reducible rfl))
            simp only [Act.put]
            refine wpAnyZ_take (i := 5) (v := ?vbq5) rfl (by kernel_rfl) (by kernel_rfl) (by kernel_rfl) (by kernel_rfl) (fun _ _ _ h => h) (Or.inl ⟨by kernel_rfl, ?ybq5⟩) (by with_reducible assumption) ?rbq5
            case ybq5 => (intro w hSw; (try dsimp only at hSw); go_simp; (try with_reducible rfl))
            simp only [Act.put]
            refine wpAnyZ_take (i := 6) (v := ?vbq6) rfl (by kernel_rfl) (by kernel_rfl) (by kernel_rfl) (by kernel_rfl) (fun _ _ _ h => h) (Or.inl ⟨by kernel_rfl, ?ybq6⟩) (by with_reducible assumption) ?rbq6
            case ybq6 => (intro w hSw; (try dsimp only at hSw); go_simp; (try with_reducible rfl))
            simp only [Act.put]
            refine wpAnyZ_take (i := 7) (v := ?vbq7) rfl (by kernel_rfl) (by kernel_rfl) (by kernel_rfl) (by kernel_rfl) (fun _ _ _ h => h) (Or.inl ⟨by kernel_rfl, ?ybq7⟩) (by with_reducible assumption) ?rbq7
            case ybq7 => (intro w hSw; (try dsimp only at hSw); go_simp; (try with_reducible rfl))
            simp only [Act.put]
            refine wpAnyZ_take (i := 8) (v := ?vbq8) rfl (by kernel_rfl) (by kernel_rfl) (by kernel_rfl) (by kernel_rfl) (fun _ _ _ h => h) (Or.inl ⟨by kernel_rfl, ?ybq8⟩) (by with_reducible assumption) ?rbq8
            case ybq8 => (intro w hSw; (try dsimp only at hSw); go_simp; (try with_reducible rfl))
            simp only [Act.put]
            refine wpAnyZ_take (i := 9) (v := ?vbq9) rfl (by kernel_rfl) (by kernel_rfl) (by kernel_rfl) (by kernel_rfl) (fun _ _ _ h => h) (Or.inl ⟨by kernel_rfl, ?ybq9⟩) (by with_reducible assumption) ?rbq9
            case ybq9 => (intro w hSw; (try dsimp only at hSw); go_simp; (try with_reducible rfl))
            simp only [Act.put]
            refine wpAnyZ_take (i := 10) (v := ?vbq10) rfl (by kernel_rfl) (by kernel_rfl) (by kernel_rfl) (by kernel_rfl) (fun _ _ _ h => h) (Or.inl ⟨by kernel_rfl, ?ybq10⟩) (by with_reducible assumption) ?rbq10
            case ybq10 => (intro w hSw; (try dsimp only at hSw); go_simp; (try with_reducible rfl))
            simp only [Act.put]
            refine wpAnyZ_take (i := 11) (v := ?vbq11) rfl (by kernel_rfl) (by kernel_rfl) (by kernel_rfl) (by kernel_rfl) (fun _ _ _ h => h) (Or.inl ⟨by kernel_rfl, ?ybq11⟩) (by with_reducible assumption) ?rbq11
            case ybq11 => (intro w hSw; (try dsimp only at hSw); go_simp; (try with_reducible rfl))
            simp only [Act.put]
            refine wpAnyZ_take (i := 12) (v := ?vbq12) rfl (by kernel_rfl) (by kernel_rfl) (by kernel_rfl) (by kernel_rfl) (fun _ _ _ h => h) (Or.inl ⟨by kernel_rfl, ?ybq12⟩) (by with_reducible assumption) ?rbq12
            case ybq12 => (intro w hSw; (try dsimp only at hSw); go_simp; (try with_reducible rfl))
            simp only [Act.put]
            refine wpAnyZ_take (i := 13) (v := ?vbq13) rfl (by kernel_rfl) (by kernel_rfl) (by kernel_rfl) (by kernel_rfl) (fun _ _ _ h => h) (Or.inl ⟨by kernel_rfl, ?ybq13⟩) (by with_reducible assumption) ?rbq13
            case ybq13 => (intro w hSw; (try dsimp only at hSw); go_simp; (try with_reducible rfl))
            simp only [Act.put]
            refine wpAnyZ_take (i := 14) (v := ?vbq14) rfl (by kernel_rfl) (by kernel_rfl) (by kernel_rfl) (by kernel_rfl) (fun _ _ _ h => h) (Or.inl ⟨by kernel_rfl, ?ybq14⟩) (by with_reducible assumption) ?rbq14
            case ybq14 => (intro w hSw; (try dsimp only at hSw); go_simp; (try with_reducible rfl))
            simp only [Act.put]
            refine wpAnyZ_take (i := 15) (v := ?vbq15) rfl (by kernel_rfl) (by kernel_rfl) (by kernel_rfl) (by kernel_rfl) (fun _ _ _ h => h) (Or.inl ⟨by kernel_rfl, ?ybq15⟩) (by with_reducible assumption) ?rbq15
            case ybq15 => (intro w hSw; (try dsimp only at hSw); go_simp; (try with_reducible rfl))
            simp only [Act.put]
            refine wpAnyZ_step (i := 16) (by kernel_rfl) rfl ?_
            intro K16 hK16
            go_simp
            refine (compareSteps_any p s _).mono ?_
            rintro e w6 ⟨rfl, hb6⟩
            have hS2a := KS.out _ (below_on hS1.1.out hb6.out)
            refine hK16.out _ _ hS2a (fun hS2 => ?_)
            clear hS2a
            clear hK16
            (try simp only [Act.put])
            refine wpAnyZ_take (i := 17) (v := ?vbs17) rfl (by kernel_rfl) (by kernel_rfl) (by kernel_rfl) (by kernel_rfl) (fun _ _ _ h => h) (Or.inl ⟨by kernel_rfl, ?ybs17⟩) (by with_reducible assumption) ?rbs17
            case ybs17 => (intro w hSw; (try dsimp only at hSw); go_simp; (try with_reducible rfl))
            simp only [Act.put]
            refine wpAnyZ_take (i := 18) (v := ?vbs18) rfl (by kernel_rfl) (by kernel_rfl) (by kernel_rfl) (by kernel_rfl) (fun _ _ _ h => h) (Or.inl ⟨by kernel_rfl, ?ybs18⟩) (by with_reducible assumption) ?rbs18
            case ybs18 => (intro w hSw; (try dsimp only at hSw); go_simp; (try with_reducible rfl))
            simp only [Act.put]
            refine wpAnyZ_last (i := 19) (by kernel_rfl) rfl (by kernel_rfl) ?_
            intro K19 hK19
            go_simp
            refine hK19.out _ _ ?_
            clear hK19
            go_wp2_with fail
            go_meet
            exact ⟨by first | rfl | (rw [hbde]; rfl), Lib.hid (below_on B1.out hS2.1.out), Lib.hid (blk_b K1.out hS2.1.out)⟩
          · subst hbf
            obtain ⟨g1, g2⟩ := befS_lt HBF.out
            refine wp_region_Z (S := fun w' => Hid (Below W.heap.size W w') ∧ w'.cell? ⟨w.heap.size, 0, none⟩ = some (.int .i64 m) ∧ w'.cell? ⟨w.heap.size, 3, none⟩ = some (.slice (some ⟨b, off, none⟩) ss.length c3) ∧ w'.cell? ⟨V, 0, none⟩ = some (.int .i64 s.fr) ∧ w'.cell? ⟨V, 1, none⟩ = some (.string s.le) ∧ w'.cell? ⟨V, 2, none⟩ = some (.int .i64 s.to_) ∧ w'.cell? ⟨V, 3, none⟩ = some (.int .i64 s.co) ∧ w'.cell? ⟨b, off + j * 4, none⟩ = some (.int .i64 p.fr) ∧ w'.cell? ⟨b, off + j * 4 + 1, none⟩ = some (.string p.le) ∧ w'.cell? ⟨b, off + j * 4 + 2, none⟩ = some (.int .i64 p.to_) ∧ w'.cell? ⟨b, off + j * 4 + 3, none⟩ = some (.int .i64 p.co)) (by kernel_rfl) hS0 (fun hS => ?_)
            clear hS0
            refine wpAnyZ_take (i := 0) (v := ?vep0) rfl (by kernel_rfl) (by kernel_rfl) (by kernel_rfl) (by kernel_rfl) (fun _ _ _ h => h) (Or.inl ⟨by kernel_rfl, ?yep0⟩) (by with_reducible assumption) ?rep0
            case yep0 => (intro w hSw; (try dsimp only at hSw); go_simp; (try with_reducible rfl))
            simp only [Act.put, List.setIfInBounds_toArray]
            refine wpAnyZ_take (i := 1) (v := ?vep1) rfl (by kernel_rfl) (by kernel_rfl) (by kernel_rfl) (by kernel_rfl) (fun _ _ _ h => h) (Or.inl ⟨by kernel_rfl, ?yep1⟩) (by with_reducible assumption) ?rep1
            case yep1 => (intro w hSw; (try dsimp only at hSw); go_simp; (try with_reducible rfl))
            simp only [Act.put]
            refine wpAnyZ_take (i := 2) (v := ?vep2) rfl (by kernel_rfl) (by kernel_rfl) (by kernel_rfl) (by kernel_rfl) (fun _ _ _ h => h) (Or.inl ⟨by kernel_rfl, ?yep2⟩) (by with_reducible assumption) ?rep2
            case yep2 => (intro w hSw; (try dsimp only at hSw); go_simp; (try with_reducible rfl))
            simp only [Act.put]
            refine wpAnyZ_step (i := 3) (by kernel_rfl) rfl ?_
            intro K3 hK3
            go_simp
            refine (stepValid_is s m _ _ HBO.out).mono ?_
            rintro e w5 ⟨rfl, hb5⟩
            have hS1a := KS.out _ (below_on hS.1.out hb5.out)
            refine hK3.out _ _ hS1a (fun hS1 => ?_)
            clear hS1a hS
            clear hK3
            (try simp only [Act.put])
            refine wpAnyZ_take (i := 4) (v := ?veq4) rfl (by kernel_rfl) (by kernel_rfl) (by kernel_rfl) (by kernel_rfl) (fun _ _ _ h => h) (Or.inl ⟨by kernel_rfl, ?yeq4⟩) (by with_reducible assumption) ?req4
            case yeq4 => (intro w hSw; (try dsimp only at hSw); go_simp; (try with_reducible rfl))
            simp only [Act.put]
            refine wpAnyZ_take (i := 5) (v := ?veq5) rfl (by kernel_rfl) (by kernel_rfl) (by kernel_rfl) (by kernel_rfl) (fun _ _ _ h => h) (Or.inl ⟨by kernel_rfl, ?yeq5⟩) (by with_reducible assumption) ?req5
            case yeq5 => (intro w hSw; (try dsimp only at hSw); go_simp; (try with_reducible rfl))
            simp only [Act.put]
            refine wpAnyZ_take (i := 6) (v := ?veq6) rfl (by kernel_rfl) (by kernel_rfl) (by kernel_rfl) (by kernel_rfl) (fun _ _ _ h => h) (Or.inl ⟨by kernel_rfl, ?yeq6⟩) (by with_reducible assumption) ?req6
            case yeq6 => (intro w hSw; (try dsimp only at hSw); go_simp; (try with_reducible rfl))
            simp only [Act.put]
            refine wpAnyZ_take (i := 7) (v := ?veq7) rfl (by kernel_rfl) (by kernel_rfl) (by kernel_rfl) (by kernel_rfl) (fun _ _ _ h => h) (Or.inl ⟨by kernel_rfl, ?yeq7⟩) (by with_reducible assumption) ?req7
            case yeq7 => (intro w hSw; (try dsimp only at hSw); go_simp; (try with_reducible rfl))
            simp only [Act.put]
            refine wpAnyZ_take (i := 8) (v := ?veq8) rfl (by kernel_rfl) (by kernel_rfl) (by kernel_rfl) (by kernel_rfl) (fun _ _ _ h => h) (Or.inl ⟨by kernel_rfl, ?yeq8⟩) (by with_reducible assumption) ?req8
            case yeq8 => (intro w hSw; (try dsimp only at hSw); go_simp; (try with_reducible rfl))
            simp only [Act.put]
            refine wpAnyZ_take (i := 9) (v := ?veq9) rfl (by kernel_rfl) (by kernel_rfl) (by kernel_rfl) (by kernel_rfl) (fun _ _ _ h => h) (Or.inl ⟨by kernel_rfl, ?yeq9⟩) (by with_reducible assumption) ?req9
            case yeq9 => (intro w hSw; (try dsimp only at hSw); go_simp; (try with_reducible rfl))
            simp only [Act.put]
            refine wpAnyZ_take (i := 10) (v := ?veq10) rfl (by kernel_rfl) (by kernel_rfl) (by kernel_rfl) (by kernel_rfl) (fun _ _ _ h => h) (Or.inl ⟨by kernel_rfl, ?yeq10⟩) (by with_reducible assumption) ?req10
            case yeq10 => (intro w hSw; (try dsimp only at hSw); go_simp; (try with_reducible rfl))
            simp only [Act.put]
            refine wpAnyZ_take (i := 11) (v := ?veq11) rfl (by kernel_rfl) (by kernel_rfl) (by kernel_rfl) (by kernel_rfl) (fun _ _ _ h => h) (Or.inl ⟨by kernel_rfl, ?yeq11⟩) (by with_reducible assumption) ?req11
            case yeq11 => (intro w hSw; (try dsimp only at hSw); go_simp; (try with_reducible rfl))
            simp only [Act.put]
            refine wpAnyZ_take (i := 12) (v := ?veq12) rfl (by kernel_rfl) (by kernel_rfl) (by kernel_rfl) (by kernel_rfl) (fun _ _ _ h => h) (Or.inl ⟨by kernel_rfl, ?yeq12⟩) (by with_reducible assumption) ?req12
            case yeq12 => (intro w hSw; (try dsimp only at hSw); go_simp; (try with_reducible rfl))
            simp only [Act.put]
            refine wpAnyZ_take (i := 13) (v := ?veq13) rfl (by kernel_rfl) (by kernel_rfl) (by kernel_rfl) (by kernel_rfl) (fun _ _ _ h => h) (Or.inl ⟨by kernel_rfl, ?yeq13⟩) (by with_reducible assumption) ?req13
            case yeq13 => (intro w hSw; (try dsimp only at hSw); go_simp; (try with_reducible rfl))
            simp only [Act.put]
            refine wpAnyZ_take (i := 14) (v := ?veq14) rfl (by kernel_rfl) (by kernel_rfl) (by kernel_rfl) (by kernel_rfl) (fun _ _ _ h => h) (Or.inl ⟨by kernel_rfl, ?yeq14⟩) (by with_reducible assumption) ?req14
            case yeq14 => (intro w hSw; (try dsimp only at hSw); go_simp; (try with_reducible rfl))
            simp only [Act.put]
            refine wpAnyZ_take (i := 15) (v := ?veq15) rfl (by kernel_rfl) (by kernel_rfl) (by kernel_rfl) (by kernel_rfl) (fun _ _ _ h => h) (Or.inl ⟨by kernel_rfl, ?yeq15⟩) (by with_reducible assumption) ?req15
            case yeq15 => (intro w hSw; (try dsimp only at hSw); go_simp; (try with_reducible rfl))
            simp only [Act.put]
            refine wpAnyZ_step (i := 16) (by kernel_rfl) rfl ?_
            intro K16 hK16
            go_simp
            refine (compareSteps_any p s _).mono ?_
            rintro e w6 ⟨rfl, hb6⟩
            have hS2a := KS.out _ (below_on hS1.1.out hb6.out)
            refine hK16.out _ _ hS2a (fun hS2 => ?_)
            clear hS2a
            clear hK16
            (try simp only [Act.put])
            refine wpAnyZ_take (i := 17) (v := ?ves17) rfl (by kernel_rfl) (by kernel_rfl) (by kernel_rfl) (by kernel_rfl) (fun _ _ _ h => h) (Or.inl ⟨by kernel_rfl, ?yes17⟩) (by with_reducible assumption) ?res17
            case yes17 => (intro w hSw; (try dsimp only at hSw); go_simp; (try with_reducible rfl))
            simp only [Act.put]
            refine wpAnyZ_take (i := 18) (v := ?ves18) rfl (by kernel_rfl) (by kernel_rfl) (by kernel_rfl) (by kernel_rfl) (fun _ _ _ h => h) (Or.inl ⟨by kernel_rfl, ?yes18⟩) (by with_reducible assumption) ?res18
            case yes18 => (intro w hSw; (try dsimp only at hSw); go_simp; (try with_reducible rfl))
            simp only [Act.put]
            refine wpAnyZ_last (i := 19) (by kernel_rfl) rfl (by kernel_rfl) ?_
            intro K19 hK19
            go_simp
            refine hK19.out _ _ ?_
            clear hK19
            go_wp2_with fail
            go_meet
            exact ⟨by first | rfl | (rw [hbde]; rfl), Lib.hid (below_on B1.out hS2.1.out), Lib.hid (blk_b K1.out hS2.1.out)⟩
      · have e : bd = true := HBD.out.2.2.1 hbo
        subst e
        subst hbo
        have KS : Hid (∀ w', Below W.heap.size W w' → (Hid (Below W.heap.size W w') ∧ w'.cell? ⟨w.heap.size, 0, none⟩ = some (.int .i64 m) ∧ w'.cell? ⟨V, 0, none⟩ = some (.int .i64 s.fr) ∧ w'.cell? ⟨V, 1, none⟩ = some (.string s.le) ∧ w'.cell? ⟨V, 2, none⟩ = some (.int .i64 s.to_) ∧ w'.cell? ⟨V, 3, none⟩ = some (.int .i64 s.co))) := fun w' h => by
          have a := blk_b K1.out h
          have v := blk_b V1.out h
          exact ⟨h, a.cell 0, v.cell 0, v.cell 1, v.cell 2, v.cell 3⟩
        have hS0 := KS.out W.drew ((Below.refl _ _).drew)
        refine wp_region_Z (S := fun w' => Hid (Below W.heap.size W w') ∧ w'.cell? ⟨w.heap.size, 0, none⟩ = some (.int .i64 m) ∧ w'.cell? ⟨V, 0, none⟩ = some (.int .i64 s.fr) ∧ w'.cell? ⟨V, 1, none⟩ = some (.string s.le) ∧ w'.cell? ⟨V, 2, none⟩ = some (.int .i64 s.to_) ∧ w'.cell? ⟨V, 3, none⟩ = some (.int .i64 s.co)) (by kernel_rfl) hS0 (fun hS => ?_)
        clear hS0
        refine wpAnyZ_take (i := 0) (v := ?vcp0) rfl (by kernel_rfl) (by kernel_rfl) (by kernel_rfl) (by kernel_rfl) (fun _ _ _ h => h) (Or.inl ⟨by kernel_rfl, ?ycp0⟩) (by with_reducible assumption) ?rcp0
        case ycp0 => (intro w hSw; (try dsimp only at hSw); go_simp; (try with_reducible rfl))
        simp only [Act.put, List.setIfInBounds_toArray]
        refine wpAnyZ_take (i := 1) (v := ?vcp1) rfl (by kernel_rfl) (by kernel_rfl) (by kernel_rfl) (by kernel_rfl) (fun _ _ _ h => h) (Or.inl ⟨by kernel_rfl, ?ycp1⟩) (by with_reducible assumption) ?rcp1
        case ycp1 => (intro w hSw; (try dsimp only at hSw); go_simp; (try with_reducible rfl))
        simp only [Act.put]
        refine wpAnyZ_take (i := 2) (v := ?vcp2) rfl (by kernel_rfl) (by kernel_rfl) (by kernel_rfl) (by kernel_rfl) (fun _ _ _ h => h) (Or.inl ⟨by kernel_rfl, ?ycp2⟩) (by with_reducible assumption) ?rcp2
        case ycp2 => (intro w hSw; (try dsimp only at hSw); go_simp; (try with_reducible rfl))
        simp only [Act.put]
        refine wpAnyZ_step (i := 3) (by kernel_rfl) rfl ?_
        intro K3 hK3
        go_simp
        refine (stepValid_is s m _ _ HBO.out).mono ?_
        rintro e w5 ⟨rfl, hb5⟩
        have hS1a := KS.out _ (below_on hS.1.out hb5.out)
        refine hK3.out _ _ hS1a (fun hS1 => ?_)
        clear hS1a hS
        clear hK3
        (try simp only [Act.put])
        refine wpAnyZ_take (i := 4) (v := ?vcq4) rfl (by kernel_rfl) (by kernel_rfl) (by kernel_rfl) (by kernel_rfl) (fun _ _ _ h => h) (Or.inl ⟨by kernel_rfl, ?ycq4⟩) (by with_reducible assumption) ?rcq4
        case ycq4 => (intro w hSw; (try dsimp only at hSw); go_simp; (try with_reducible rfl))
        simp only [Act.put]
        refine wpAnyZ_take (i := 5) (v := ?vcq5) rfl (by kernel_rfl) (by kernel_rfl) (by kernel_rfl) (by kernel_rfl) (fun _ _ _ h => h) (Or.inl ⟨by kernel_rfl, ?ycq5⟩) (by with_reducible assumption) ?rcq5
        case ycq5 => (intro w hSw; (try dsimp only at hSw); go_simp; (try with_reducible rfl))
        simp only [Act.put]
        refine wpAnyZ_take (i := 6) (v := undef) rfl (by kernel_rfl) (by kernel_rfl) (by kernel_rfl) (by kernel_rfl) (fun _ _ _ h => h) (Or.inr ⟨by kernel_rfl, rfl⟩) (by with_reducible assumption) ?rc6
        simp only [Act.put]
        refine wpAnyZ_take (i := 7) (v := undef) rfl (by kernel_rfl) (by kernel_rfl) (by kernel_rfl) (by kernel_rfl) (fun _ _ _ h => h) (Or.inr ⟨by kernel_rfl, rfl⟩) (by with_reducible assumption) ?rc7
        simp only [Act.put]
        refine wpAnyZ_take (i := 8) (v := undef) rfl (by kernel_rfl) (by kernel_rfl) (by kernel_rfl) (by kernel_rfl) (fun _ _ _ h => h) (Or.inr ⟨by kernel_rfl, rfl⟩) (by with_reducible assumption) ?rc8
        simp only [Act.put]
        refine wpAnyZ_take (i := 9) (v := undef) rfl (by kernel_rfl) (by kernel_rfl) (by kernel_rfl) (by kernel_rfl) (fun _ _ _ h => h) (Or.inr ⟨by kernel_rfl, rfl⟩) (by with_reducible assumption) ?rc9
        simp only [Act.put]
        refine wpAnyZ_take (i := 10) (v := undef) rfl (by kernel_rfl) (by kernel_rfl) (by kernel_rfl) (by kernel_rfl) (fun _ _ _ h => h) (Or.inr ⟨by kernel_rfl, rfl⟩) (by with_reducible assumption) ?rc10
        simp only [Act.put]
        refine wpAnyZ_take (i := 11) (v := undef) rfl (by kernel_rfl) (by kernel_rfl) (by kernel_rfl) (by kernel_rfl) (fun _ _ _ h => h) (Or.inr ⟨by kernel_rfl, rfl⟩) (by with_reducible assumption) ?rc11
        simp only [Act.put]
        refine wpAnyZ_take (i := 12) (v := undef) rfl (by kernel_rfl) (by kernel_rfl) (by kernel_rfl) (by kernel_rfl) (fun _ _ _ h => h) (Or.inr ⟨by kernel_rfl, rfl⟩) (by with_reducible assumption) ?rc12
        simp only [Act.put]
        refine wpAnyZ_take (i := 13) (v := undef) rfl (by kernel_rfl) (by kernel_rfl) (by kernel_rfl) (by kernel_rfl) (fun _ _ _ h => h) (Or.inr ⟨by kernel_rfl, rfl⟩) (by with_reducible assumption) ?rc13
        simp only [Act.put]
        refine wpAnyZ_take (i := 14) (v := undef) rfl (by kernel_rfl) (by kernel_rfl) (by kernel_rfl) (by kernel_rfl) (fun _ _ _ h => h) (Or.inr ⟨by kernel_rfl, rfl⟩) (by with_reducible assumption) ?rc14
        simp only [Act.put]
        refine wpAnyZ_take (i := 15) (v := undef) rfl (by kernel_rfl) (by kernel_rfl) (by kernel_rfl) (by kernel_rfl) (fun _ _ _ h => h) (Or.inr ⟨by kernel_rfl, rfl⟩) (by with_reducible assumption) ?rc15
        simp only [Act.put]
        refine wpAnyZ_take (i := 16) (v := undef) rfl (by kernel_rfl) (by kernel_rfl) (by kernel_rfl) (by kernel_rfl) (fun _ _ _ h => h) (Or.inr ⟨by kernel_rfl, rfl⟩) (by with_reducible assumption) ?rc16
        simp only [Act.put]
        refine wpAnyZ_take (i := 17) (v := undef) rfl (by kernel_rfl) (by kernel_rfl) (by kernel_rfl) (by kernel_rfl) (fun _ _ _ h => h) (Or.inr ⟨by kernel_rfl, rfl⟩) (by with_reducible assumption) ?rc17
        simp only [Act.put]
        refine wpAnyZ_take (i := 18) (v := undef) rfl (by kernel_rfl) (by kernel_rfl) (by kernel_rfl) (by kernel_rfl) (fun _ _ _ h => h) (Or.inr ⟨by kernel_rfl, rfl⟩) (by with_reducible assumption) ?rc18
        simp only [Act.put]
        refine wpAnyZ_last (i := 19) (by kernel_rfl) rfl (by kernel_rfl) ?_
        intro K19 hK19
        go_simp
        refine hK19.out _ _ ?_
        clear hK19
        go_wp2_with fail
        go_meet
        exact ⟨rfl, Lib.hid (below_on B1.out hS1.1.out), Lib.hid (blk_b K1.out hS1.1.out)⟩
    case rest =>
      obtain ⟨rfl, hbx, hkx⟩ := hcut
      clear B1 K1 V1
      rcases Bool.eq_false_or_eq_true bd with h | h
      · subst h
        have e : r = false := by rw [HBD.out.1]; rfl
        subst e
        go_wp2_with fail
        go_ret
        exact ⟨rfl, hbx.out⟩
      · subst h
        have HRN : Hid (r = stepsF m (prevO ss (k + 1)) (ss.drop (k + 1))) := by show _ = _; rw [HBD.out.1, prevO, HG.out]; rfl
        have HPN : Hid (∀ j, k + 1 = j + 1 → stepOk m (ss.getD j default) = true) := fun j hj => by
          have e : j = k := by omega
          subst e
          rw [HG.out, HBO.out]; exact HBD.out.2.1 rfl
        go_wp2_with fail
        go_roundw
        case rel => exact ⟨k + 1, by omega, by go_num, hbx, hkx, HRN, HPN⟩
        case measure => simp [intOf]; omega
end Go.Proofs.YtfdbbopanankgaaDoor
namespace Go.Proofs.YtfdbbopanankgaaDoor
open Go.RowKit
set_option maxHeartbeats 8000000
set_option maxRecDepth 100000
set_option linter.unusedVariables false

theorem sAutomatonValid_is (m : Int) (A1 A2 A3 : Option Addr) (c1 c2 c3 : Nat) (xs ys : List Int) (ss : List StepD) (r : Bool) (w : World) (hx : Ints w w.heap.size A1 xs) (hy : Ints w w.heap.size A2 ys) (hs : SRow w w.heap.size A3 ss) (hr : autoOk m xs ys ss = r) :
    Calls Tryd.prog 18 #[.agg #[.int .i64 m, .slice A1 xs.length c1, .slice A2 ys.length c2, .slice A3 ss.length c3]] w fun e w' => e = .returned (.bool r) ∧ Hid (Below w.heap.size w w') := by
  have hl := hs.1
  have HX := Lib.hid (ints_al hx (.cells #[.int .i64 m, .slice A1 xs.length c1, .slice A2 ys.length c2, .slice A3 ss.length c3] 26))
  have HY := Lib.hid (ints_al hy (.cells #[.int .i64 m, .slice A1 xs.length c1, .slice A2 ys.length c2, .slice A3 ss.length c3] 26))
  have HS := Lib.hid hs
  have K0 := Lib.hid (Blk.new w 26 #[.int .i64 m, .slice A1 xs.length c1, .slice A2 ys.length c2, .slice A3 ss.length c3])
  have B0 := Lib.hid (below_a1 w (.cells #[.int .i64 m, .slice A1 xs.length c1, .slice A2 ys.length c2, .slice A3 ss.length c3] 26))
  unfold autoOk at hr
  clear hx hy hs
  by_cases hm : 1 ≤ m ∧ m ≤ 4
  rotate_left
  · have e : r = false := by rw [← hr, decide_eq_false hm]; rfl
    subst e
    clear hr
    go_enter Tryd.func18, Tryd.ntmps18
    go_wp2_with fail
    refine (l1In_is _ _ _ false _ (decide_eq_false hm)).mono ?_
    rintro e w' ⟨rfl, rfl⟩
    go_wp2_with fail
    go_ret
    exact ⟨rfl, B0.out⟩
  obtain ⟨m1, m2⟩ := hm
  obtain ⟨bx, hbx⟩ : ∃ b, marksF m (-1) xs = b := ⟨_, rfl⟩
  obtain ⟨by_, hby⟩ : ∃ b, marksF m (-1) ys = b := ⟨_, rfl⟩
  rw [decide_eq_true ⟨m1, m2⟩, hbx, hby, Bool.true_and] at hr
  have HR := Lib.hid hr
  have HQX := Lib.hid hbx
  have HQY := Lib.hid hby
  clear hr hbx hby
  go_enter Tryd.func18, Tryd.ntmps18
  go_wp2_with fail
  refine (l1In_is _ _ _ true _ (decide_eq_true ⟨m1, m2⟩)).mono ?_
  rintro e w' ⟨rfl, rfl⟩
  go_wp2_with fail
  refine (l3Marks_is _ _ _ _ _ bx _ m1 m2 HX.out HQX.out).mono ?_
  rintro e w' ⟨rfl, rfl⟩
  rcases Bool.eq_false_or_eq_true bx with h | h
  all_goals subst h
  rotate_left
  · have e : r = false := by rw [← HR.out]; rfl
    subst e
    go_wp2_with fail
    go_ret
    exact ⟨rfl, B0.out⟩
  go_wp2_with fail
  refine (l3Marks_is _ _ _ _ _ by_ _ m1 m2 HY.out HQY.out).mono ?_
  rintro e w' ⟨rfl, rfl⟩
  rcases Bool.eq_false_or_eq_true by_ with h | h
  all_goals subst h
  rotate_left
  · have e : r = false := by rw [← HR.out]; rfl
    subst e
    go_wp2_with fail
    go_ret
    exact ⟨rfl, B0.out⟩
  by_cases h24 : ss.length ≤ 24
  rotate_left
  · have e : r = false := by rw [← HR.out, decide_eq_false h24]; rfl
    subst e
    have h24' : (24 : Int) < (ss.length : Int) := by omega
    go_wp2_with fail
    go_ret
    exact ⟨rfl, B0.out⟩
  have HR2 : Hid (r = stepsF m none ss) := by show _ = _; rw [← HR.out, decide_eq_true h24]; rfl
  have h24' : ¬ (24 : Int) < (ss.length : Int) := by omega
  clear HR HX HY
  go_wp2_with fail
  go_loopw [34] (fun i wr => ∃ (k : Nat), k ≤ ss.length ∧ i = .int .i64 k ∧ Hid (Below w.heap.size w wr) ∧ Hid (Blk wr w.heap.size 26 #[.int .i64 m, .slice A1 xs.length c1, .slice A2 ys.length c2, .slice A3 ss.length c3]) ∧ Hid (r = stepsF m (prevO ss k) (ss.drop k)) ∧ Hid (∀ j, k = j + 1 → stepOk m (ss.getD j default) = true)) (fun i _ => ss.length - (intOf i).toNat)
  case atStart => exact ⟨0, Nat.zero_le _, rfl, B0.out, K0.out, HR2.out, fun j hj => absurd hj (by omega)⟩
  case round =>
    obtain ⟨k, hk, rfl, hbw, hkw, hrr, hpv⟩ := hrel
    clear B0 K0 HR2
    by_cases hlt : k < ss.length
    rotate_left
    · have e : r = true := by rw [hrr.out, List.drop_of_length_le (by omega)]; cases k <;> rfl
      subst e
      go_wp2_with fail
      go_ret
      exact ⟨rfl, hbw.out⟩
    obtain ⟨b, off, s, rfl, hbB, hat, hsz, hd, hg⟩ := HS.out.at_ hlt
    obtain ⟨q0, q1, q2, q3⟩ := hat.below hbw.out hbB
    obtain ⟨bo, hbo⟩ : ∃ b, stepOk m s = b := ⟨_, rfl⟩
    have HBO := Lib.hid hbo
    have HD := Lib.hid hd
    have HG := Lib.hid hg
    have B1 := Lib.hid (below_al hbw.out (Nat.le_refl _) (.cells #[.int .i64 s.fr, .string s.le, .int .i64 s.to_, .int .i64 s.co] 75))
    have K1 := Lib.hid (hkw.out.alloc (.cells #[.int .i64 s.fr, .string s.le, .int .i64 s.to_, .int .i64 s.co] 75))
    have V1 := Lib.hid (Blk.new wr 75 #[.int .i64 s.fr, .string s.le, .int .i64 s.to_, .int .i64 s.co])
    clear hbo hd hg hat hbw hkw
    obtain ⟨bd, hbd⟩ : ∃ bd, r = (!bd && stepsF m (some s) (ss.drop (k + 1))) ∧ (bd = false → bo = true) ∧ (bo = false → bd = true) ∧ (k = 0 → bd = !bo) ∧ ∀ j, k = j + 1 → bd = !(bo && befS (ss.getD j default) s) := by
      rcases k with _ | j
      · refine ⟨!bo, ?_, by cases bo <;> simp, by cases bo <;> simp, fun _ => rfl, fun j hj => absurd hj (by omega)⟩
        rw [hrr.out, HD.out, prevO, stepsF, HBO.out]; cases bo <;> rfl
      · refine ⟨!(bo && befS (ss.getD j default) s), ?_, by cases bo <;> simp, by cases bo <;> simp, fun h => absurd h (by omega), fun i hi => by rw [show i = j from by omega]⟩
        rw [hrr.out, HD.out, prevO, stepsF, HBO.out]; cases bo <;> cases befS (ss.getD j default) s <;> rfl
    have HBD := Lib.hid hbd
    clear hbd
    obtain ⟨W, hW⟩ : ∃ W, W = wr.alloc (.cells #[.int .i64 s.fr, .string s.le, .int .i64 s.to_, .int .i64 s.co] 75) := ⟨_, rfl⟩
    obtain ⟨V, hV⟩ : ∃ V, V = wr.heap.size := ⟨_, rfl⟩
    have HWE := Lib.hid hW
    have HVE := Lib.hid hV
    rw [← hW] at B1 K1 V1
    rw [← hV] at V1
    clear hW hV
    go_upto_region 6 with fail
    rw [← HVE.out, ← HWE.out]
    clear HVE HWE q0 q1 q2 q3
    go_cut [58] (fun c wx => c = .bool bd ∧ Hid (Below w.heap.size w wx) ∧ Hid (Blk wx w.heap.size 26 #[.int .i64 m, .slice A1 xs.length c1, .slice A2 ys.length c2, .slice (some ⟨b, off, none⟩) ss.length c3]))
    case first =>
      have hi0 : (0 : Int) ≤ (k : Int) := by omega
      have hi1 : (k : Int) < (ss.length : Int) := by omega
      rcases Bool.eq_false_or_eq_true bo with hbo | hbo
      · rcases Nat.eq_zero_or_pos k with hkk | hkk
        · have e : bd = false := by rw [HBD.out.2.2.2.1 hkk, hbo]; rfl
          have k0 : ¬ 0 < k := by omega
          have k0' : ¬ (0 : Int) < (k : Int) := by omega
          have k0b : decide (0 < k) = false := decide_eq_false k0
          have k0c : decide ((0 : Int) < (k : Int)) = false := decide_eq_false k0'
          clear hkk
          subst e
          subst hbo
          have KS : Hid (∀ w', Below W.heap.size W w' → (Hid (Below W.heap.size W w') ∧ w'.cell? ⟨w.heap.size, 0, none⟩ = some (.int .i64 m) ∧ w'.cell? ⟨V, 0, none⟩ = some (.int .i64 s.fr) ∧ w'.cell? ⟨V, 1, none⟩ = some (.string s.le) ∧ w'.cell? ⟨V, 2, none⟩ = some (.int .i64 s.to_) ∧ w'.cell? ⟨V, 3, none⟩ = some (.int .i64 s.co))) := fun w' h => by
            have a := blk_b K1.out h
            have v := blk_b V1.out h
            exact ⟨h, a.cell 0, v.cell 0, v.cell 1, v.cell 2, v.cell 3⟩
          have hS0 := KS.out W.drew ((Below.refl _ _).drew)
          refine wp_region_Z (S := fun w' => Hid (Below W.heap.size W w') ∧ w'.cell? ⟨w.heap.size, 0, none⟩ = some (.int .i64 m) ∧ w'.cell? ⟨V, 0, none⟩ = some (.int .i64 s.fr) ∧ w'.cell? ⟨V, 1, none⟩ = some (.string s.le) ∧ w'.cell? ⟨V, 2, none⟩ = some (.int .i64 s.to_) ∧ w'.cell? ⟨V, 3, none⟩ = some (.int .i64 s.co)) (by kernel_rfl) hS0 (fun hS => ?_)
          clear hS0
          refine wpAnyZ_take (i := 0) (v := ?vap0) rfl (by kernel_rfl) (by kernel_rfl) (by kernel_rfl) (by kernel_rfl) (fun _ _ _ h => h) (Or.inl ⟨by kernel_rfl, ?yap0⟩) (by with_reducible assumption) ?rap0
          case yap0 => (intro w hSw; (try dsimp only at hSw); go_simp; (try with_reducible rfl))
          simp only [Act.put, List.setIfInBounds_toArray]
          refine wpAnyZ_take (i := 1) (v := ?vap1) rfl (by kernel_rfl) (by kernel_rfl) (by kernel_rfl) (by kernel_rfl) (fun _ _ _ h => h) (Or.inl ⟨by kernel_rfl, ?yap1⟩) (by with_reducible assumption) ?rap1
          case yap1 => (intro w hSw; (try dsimp only at hSw); go_simp; (try with_reducible rfl))
          simp only [Act.put]
          refine wpAnyZ_take (i := 2) (v := ?vap2) rfl (by kernel_rfl) (by kernel_rfl) (by kernel_rfl) (by kernel_rfl) (fun _ _ _ h => h) (Or.inl ⟨by kernel_rfl, ?yap2⟩) (by with_reducible assumption) ?rap2
          case yap2 => (intro w hSw; (try dsimp only at hSw); go_simp; (try with_reducible rfl))
          simp only [Act.put]
          refine wpAnyZ_step (i := 3) (by kernel_rfl) rfl ?_
          intro K3 hK3
          go_simp
          refine (l3Step_is s m _ _ m1 m2 HBO.out).mono ?_
          rintro e w5 ⟨rfl, hb5⟩
          have hS1a := KS.out _ (below_on hS.1.out hb5.out)
          refine hK3.out _ _ hS1a (fun hS1 => ?_)
          clear hS1a hS
          clear hK3
          (try simp only [Act.put])
          refine wpAnyZ_take (i := 4) (v := ?vaq4) rfl (by kernel_rfl) (by kernel_rfl) (by kernel_rfl) (by kernel_rfl) (fun _ _ _ h => h) (Or.inl ⟨by kernel_rfl, ?yaq4⟩) (by with_reducible assumption) ?raq4
          case yaq4 => (intro w hSw; (try dsimp only at hSw); go_simp; (try with_reducible rfl))
          simp only [Act.put]
          refine wpAnyZ_take (i := 5) (v := ?vaq5) rfl (by kernel_rfl) (by kernel_rfl) (by kernel_rfl) (by kernel_rfl) (fun _ _ _ h => h) (Or.inl ⟨by kernel_rfl, ?yaq5⟩) (by with_reducible assumption) ?raq5
          case yaq5 => (intro w hSw; (try dsimp only at hSw); go_simp; (try with_reducible rfl))
          simp only [Act.put]
          refine wpAnyZ_take (i := 6) (v := ?vaq6) rfl (by kernel_rfl) (by kernel_rfl) (by kernel_rfl) (by kernel_rfl) (fun _ _ _ h => h) (Or.inl ⟨by kernel_rfl, ?yaq6⟩) (by with_reducible assumption) ?raq6
          case yaq6 => (intro w hSw; (try dsimp only at hSw); go_simp; (try with_reducible rfl))
          simp only [Act.put]
          refine wpAnyZ_take (i := 7) (v := ?vaq7) rfl (by kernel_rfl) (by kernel_rfl) (by kernel_rfl) (by kernel_rfl) (fun _ _ _ h => h) (Or.inl ⟨by kernel_rfl, ?yaq7⟩) (by with_reducible assumption) ?raq7
          case yaq7 => (intro w hSw; (try dsimp only at hSw); go_simp; (try with_reducible rfl))
          simp only [Act.put]
          refine wpAnyZ_take (i := 8) (v := ?vaq8) rfl (by kernel_rfl) (by kernel_rfl) (by kernel_rfl) (by kernel_rfl) (fun _ _ _ h => h) (Or.inl ⟨by kernel_rfl, ?yaq8⟩) (by with_reducible assumption) ?raq8
          case yaq8 => (intro w hSw; (try dsimp only at hSw); go_simp; (try with_reducible rfl))
          simp only [Act.put]
          refine wpAnyZ_take (i := 9) (v := undef) rfl (by kernel_rfl) (by kernel_rfl) (by kernel_rfl) (by kernel_rfl) (fun _ _ _ h => h) (Or.inr ⟨by kernel_rfl, rfl⟩) (by with_reducible assumption) ?ra9
          simp only [Act.put]
          refine wpAnyZ_take (i := 10) (v := undef) rfl (by kernel_rfl) (by kernel_rfl) (by kernel_rfl) (by kernel_rfl) (fun _ _ _ h => h) (Or.inr ⟨by kernel_rfl, rfl⟩) (by with_reducible assumption) ?ra10
          simp only [Act.put]
          refine wpAnyZ_take (i := 11) (v := undef) rfl (by kernel_rfl) (by kernel_rfl) (by kernel_rfl) (by kernel_rfl) (fun _ _ _ h => h) (Or.inr ⟨by kernel_rfl, rfl⟩) (by with_reducible assumption) ?ra11
          simp only [Act.put]
          refine wpAnyZ_take (i := 12) (v := undef) rfl (by kernel_rfl) (by kernel_rfl) (by kernel_rfl) (by kernel_rfl) (fun _ _ _ h => h) (Or.inr ⟨by kernel_rfl, rfl⟩) (by with_reducible assumption) ?ra12
          simp only [Act.put]
          refine wpAnyZ_take (i := 13) (v := undef) rfl (by kernel_rfl) (by kernel_rfl) (by kernel_rfl) (by kernel_rfl) (fun _ _ _ h => h) (Or.inr ⟨by kernel_rfl, rfl⟩) (by with_reducible assumption) ?ra13
          simp only [Act.put]
          refine wpAnyZ_take (i := 14) (v := undef) rfl (by kernel_rfl) (by kernel_rfl) (by kernel_rfl) (by kernel_rfl) (fun _ _ _ h => h) (Or.inr ⟨by kernel_rfl, rfl⟩) (by with_reducible assumption) ?ra14
          simp only [Act.put]
          refine wpAnyZ_take (i := 15) (v := undef) rfl (by kernel_rfl) (by kernel_rfl) (by kernel_rfl) (by kernel_rfl) (fun _ _ _ h => h) (Or.inr ⟨by kernel_rfl, rfl⟩) (by with_reducible assumption) ?ra15
          simp only [Act.put]
          refine wpAnyZ_take (i := 16) (v := undef) rfl (by kernel_rfl) (by kernel_rfl) (by kernel_rfl) (by kernel_rfl) (fun _ _ _ h => h) (Or.inr ⟨by kernel_rfl, rfl⟩) (by with_reducible assumption) ?ra16
          simp only [Act.put]
          refine wpAnyZ_take (i := 17) (v := undef) rfl (by kernel_rfl) (by kernel_rfl) (by kernel_rfl) (by kernel_rfl) (fun _ _ _ h => h) (Or.inr ⟨by kernel_rfl, rfl⟩) (by with_reducible assumption) ?ra17
          simp only [Act.put]
          refine wpAnyZ_take (i := 18) (v := ?vas18) rfl (by kernel_rfl) (by kernel_rfl) (by kernel_rfl) (by kernel_rfl) (fun _ _ _ h => h) (Or.inl ⟨by kernel_rfl, ?yas18⟩) (by with_reducible assumption) ?ras18
          case yas18 => (intro w hSw; (try dsimp only at hSw); go_simp; (try with_reducible rfl))
          simp only [Act.put]
          refine wpAnyZ_last (i := 19) (by kernel_rfl) rfl (by kernel_rfl) ?_
          intro K19 hK19
          go_simp
          refine hK19.out _ _ ?_
          clear hK19
          go_wp2_with fail
          go_meet
          exact ⟨rfl, Lib.hid (below_on B1.out hS1.1.out), Lib.hid (blk_b K1.out hS1.1.out)⟩
        · obtain ⟨j, rfl⟩ : ∃ j, k = j + 1 := ⟨k - 1, by omega⟩
          clear hkk
          obtain ⟨b', off', p, hbe, hbB', hatp, _, _, hgp⟩ := HS.out.at_ (k := j) (by omega)
          cases hbe
          obtain ⟨bf, hbf⟩ : ∃ bf, befS p s = bf := ⟨_, rfl⟩
          have hbde : bd = !bf := by rw [HBD.out.2.2.2.2 j rfl, hgp, hbo, hbf]; rfl
          have HP := Lib.hid (show stepOk m p = true by rw [← hgp]; exact hpv.out j rfl)
          subst hbo
          have HBF := Lib.hid hbf
          have HAT := Lib.hid (hatp.below (w' := W) B1.out hbB')
          have hbW : b < W.heap.size := Nat.lt_of_lt_of_le hbB' B1.out.size
          have hk0 : (0 : Int) < ((j + 1 : Nat) : Int) := by omega
          have hj1 : ((j + 1 : Nat) : Int) - 1 = (j : Int) := by omega
          have hj2 : (0 : Int) ≤ (j : Int) := by omega
          have hj3 : (j : Int) < (ss.length : Int) := by omega
          have hjw : IntKind.i64.wrap ((j : Nat) : Int) = (j : Int) := IntWalk.i64_in _ (by omega)
          clear hatp hgp hbf
          have KS : Hid (∀ w', Below W.heap.size W w' → (Hid (Below W.heap.size W w') ∧ w'.cell? ⟨w.heap.size, 0, none⟩ = some (.int .i64 m) ∧ w'.cell? ⟨w.heap.size, 3, none⟩ = some (.slice (some ⟨b, off, none⟩) ss.length c3) ∧ w'.cell? ⟨V, 0, none⟩ = some (.int .i64 s.fr) ∧ w'.cell? ⟨V, 1, none⟩ = some (.string s.le) ∧ w'.cell? ⟨V, 2, none⟩ = some (.int .i64 s.to_) ∧ w'.cell? ⟨V, 3, none⟩ = some (.int .i64 s.co) ∧ w'.cell? ⟨b, off + j * 4, none⟩ = some (.int .i64 p.fr) ∧ w'.cell? ⟨b, off + j * 4 + 1, none⟩ = some (.string p.le) ∧ w'.cell? ⟨b, off + j * 4 + 2, none⟩ = some (.int .i64 p.to_) ∧ w'.cell? ⟨b, off + j * 4 + 3, none⟩ = some (.int .i64 p.co))) := fun w' h => by
            have a := blk_b K1.out h
            have v := blk_b V1.out h
            obtain ⟨u0, u1, u2, u3⟩ := HAT.out.below h hbW
            exact ⟨h, a.cell 0, a.cell 3, v.cell 0, v.cell 1, v.cell 2, v.cell 3, u0, u1, u2, u3⟩
          have hS0 := KS.out W.drew ((Below.refl _ _).drew)
          rcases Bool.eq_false_or_eq_true bf with hbf | hbf
          · subst hbf
            refine wp_region_Z (S := fun w' => Hid (Below W.heap.size W w') ∧ w'.cell? ⟨w.heap.size, 0, none⟩ = some (.int .i64 m) ∧ w'.cell? ⟨w.heap.size, 3, none⟩ = some (.slice (some ⟨b, off, none⟩) ss.length c3) ∧ w'.cell? ⟨V, 0, none⟩ = some (.int .i64 s.fr) ∧ w'.cell? ⟨V, 1, none⟩ = some (.string s.le) ∧ w'.cell? ⟨V, 2, none⟩ = some (.int .i64 s.to_) ∧ w'.cell? ⟨V, 3, none⟩ = some (.int .i64 s.co) ∧ w'.cell? ⟨b, off + j * 4, none⟩ = some (.int .i64 p.fr) ∧ w'.cell? ⟨b, off + j * 4 + 1, none⟩ = some (.string p.le) ∧ w'.cell? ⟨b, off + j * 4 + 2, none⟩ = some (.int .i64 p.to_) ∧ w'.cell? ⟨b, off + j * 4 + 3, none⟩ = some (.int .i64 p.co)) (by kernel_rfl) hS0 (fun hS => ?_)
            clear hS0
            refine wpAnyZ_take (i := 0) (v := ?vbp0) rfl (by kernel_rfl) (by kernel_rfl) (by kernel_rfl) (by kernel_rfl) (fun _ _ _ h => h) (Or.inl ⟨by kernel_rfl, ?ybp0⟩) (by with_reducible assumption) ?rbp0
            case ybp0 => (intro w hSw; (try dsimp only at hSw); go_simp; (try with_reducible rfl))
            simp only [Act.put, List.setIfInBounds_toArray]
            refine wpAnyZ_take (i := 1) (v := ?vbp1) rfl (by kernel_rfl) (by kernel_rfl) (by kernel_rfl) (by kernel_rfl) (fun _ _ _ h => h) (Or.inl ⟨by kernel_rfl, ?ybp1⟩) (by with_reducible assumption) ?rbp1
            case ybp1 => (intro w hSw; (try dsimp only at hSw); go_simp; (try with_reducible rfl))
            simp only [Act.put]
            refine wpAnyZ_take (i := 2) (v := ?vbp2) rfl (by kernel_rfl) (by kernel_rfl) (by kernel_rfl) (by kernel_rfl) (fun _ _ _ h => h) (Or.inl ⟨by kernel_rfl, ?ybp2⟩) (by with_reducible assumption) ?rbp2
            case ybp2 => (intro w hSw; (try dsimp only at hSw); go_simp; (try with_reducible rfl))
            simp only [Act.put]
            refine wpAnyZ_step (i := 3) (by kernel_rfl) rfl ?_
            intro K3 hK3
            go_simp
            refine (l3Step_is s m _ _ m1 m2 HBO.out).mono ?_
            rintro e w5 ⟨rfl, hb5⟩
            have hS1a := KS.out _ (below_on hS.1.out hb5.out)
            refine hK3.out _ _ hS1a (fun hS1 => ?_)
            clear hS1a hS
            clear hK3
            (try simp only [Act.put])
            refine wpAnyZ_take (i := 4) (v := ?vbq4) rfl (by kernel_rfl) (by kernel_rfl) (by kernel_rfl) (by kernel_rfl) (fun _ _ _ h => h) (Or.inl ⟨by kernel_rfl, ?ybq4⟩) (by with_reducible assumption) ?rbq4
            case ybq4 => (intro w hSw; (try dsimp only at hSw); go_simp; (try with_reducible rfl))
            simp only [Act.put]
            refine wpAnyZ_take (i := 5) (v := ?vbq5) rfl (by kernel_rfl) (by kernel_rfl) (by kernel_rfl) (by kernel_rfl) (fun _ _ _ h => h) (Or.inl ⟨by kernel_rfl, ?ybq5⟩) (by with_reducible assumption) ?rbq5
            case ybq5 => (intro w hSw; (try dsimp only at hSw); go_simp; (try with_reducible rfl))
            simp only [Act.put]
            refine wpAnyZ_take (i := 6) (v := ?vbq6) rfl (by kernel_rfl) (by kernel_rfl) (by kernel_rfl) (by kernel_rfl) (fun _ _ _ h => h) (Or.inl ⟨by kernel_rfl, ?ybq6⟩) (by with_reducible assumption) ?rbq6
            case ybq6 => (intro w hSw; (try dsimp only at hSw); go_simp; (try with_reducible rfl))
            simp only [Act.put]
            refine wpAnyZ_take (i := 7) (v := ?vbq7) rfl (by kernel_rfl) (by kernel_rfl) (by kernel_rfl) (by kernel_rfl) (fun _ _ _ h => h) (Or.inl ⟨by kernel_rfl, ?ybq7⟩) (by with_reducible assumption) ?rbq7
            case ybq7 => (intro w hSw; (try dsimp only at hSw); go_simp; (try with_reducible rfl))
            simp only [Act.put]
            refine wpAnyZ_take (i := 8) (v := ?vbq8) rfl (by kernel_rfl) (by kernel_rfl) (by kernel_rfl) (by kernel_rfl) (fun _ _ _ h => h) (Or.inl ⟨by kernel_rfl, ?ybq8⟩) (by with_reducible assumption) ?rbq8
            case ybq8 => (intro w hSw; (try dsimp only at hSw); go_simp; (try with_reducible rfl))
            simp only [Act.put]
            refine wpAnyZ_take (i := 9) (v := ?vbq9) rfl (by kernel_rfl) (by kernel_rfl) (by kernel_rfl) (by kernel_rfl) (fun _ _ _ h => h) (Or.inl ⟨by kernel_rfl, ?ybq9⟩) (by with_reducible assumption) ?rbq9
            case ybq9 => (intro w hSw; (try dsimp only at hSw); go_simp; (try with_reducible rfl))
            simp only [Act.put]
            refine wpAnyZ_take (i := 10) (v := ?vbq10) rfl (by kernel_rfl) (by kernel_rfl) (by kernel_rfl) (by kernel_rfl) (fun _ _ _ h => h) (Or.inl ⟨by kernel_rfl, ?ybq10⟩) (by with_reducible assumption) ?rbq10
            case ybq10 => (intro w hSw; (try dsimp only at hSw); go_simp; (try with_reducible rfl))
            simp only [Act.put]
            refine wpAnyZ_take (i := 11) (v := ?vbq11) rfl (by kernel_rfl) (by kernel_rfl) (by kernel_rfl) (by kernel_rfl) (fun _ _ _ h => h) (Or.inl ⟨by kernel_rfl, ?ybq11⟩) (by with_reducible assumption) ?rbq11
            case ybq11 => (intro w hSw; (try dsimp only at hSw); go_simp; (try with_reducible rfl))
            simp only [Act.put]
            refine wpAnyZ_take (i := 12) (v := ?vbq12) rfl (by kernel_rfl) (by kernel_rfl) (by kernel_rfl) (by kernel_rfl) (fun _ _ _ h => h) (Or.inl ⟨by kernel_rfl, ?ybq12⟩) (by with_reducible assumption) ?rbq12
            case ybq12 => (intro w hSw; (try dsimp only at hSw); go_simp; (try with_reducible rfl))
            simp only [Act.put]
            refine wpAnyZ_take (i := 13) (v := ?vbq13) rfl (by kernel_rfl) (by kernel_rfl) (by kernel_rfl) (by kernel_rfl) (fun _ _ _ h => h) (Or.inl ⟨by kernel_rfl, ?ybq13⟩) (by with_reducible assumption) ?rbq13
            case ybq13 => (intro w hSw; (try dsimp only at hSw); go_simp; (try with_reducible rfl))
            simp only [Act.put]
            refine wpAnyZ_take (i := 14) (v := ?vbq14) rfl (by kernel_rfl) (by kernel_rfl) (by kernel_rfl) (by kernel_rfl) (fun _ _ _ h => h) (Or.inl ⟨by kernel_rfl, ?ybq14⟩) (by with_reducible assumption) ?rbq14
            case ybq14 => (intro w hSw; (try dsimp only at hSw); go_simp; (try with_reducible rfl))
            simp only [Act.put]
            refine wpAnyZ_take (i := 15) (v := ?vbq15) rfl (by kernel_rfl) (by kernel_rfl) (by kernel_rfl) (by kernel_rfl) (fun _ _ _ h => h) (Or.inl ⟨by kernel_rfl, ?ybq15⟩) (by with_reducible assumption) ?rbq15
            case ybq15 => (intro w hSw; (try dsimp only at hSw); go_simp; (try with_reducible rfl))
            simp only [Act.put]
            refine wpAnyZ_step (i := 16) (by kernel_rfl) rfl ?_
            intro K16 hK16
            go_simp
            refine (l3Before_is p s _ _ (stepOk_l HP.out) (stepOk_l HBO.out) HBF.out).mono ?_
            rintro e w6 ⟨rfl, hb6⟩
            have hS2a := KS.out _ (below_on hS1.1.out hb6.out)
            refine hK16.out _ _ hS2a (fun hS2 => ?_)
            clear hS2a
            clear hK16
            (try simp only [Act.put])
            refine wpAnyZ_take (i := 17) (v := ?vbs17) rfl (by kernel_rfl) (by kernel_rfl) (by kernel_rfl) (by kernel_rfl) (fun _ _ _ h => h) (Or.inl ⟨by kernel_rfl, ?ybs17⟩) (by with_reducible assumption) ?rbs17
            case ybs17 => (intro w hSw; (try dsimp only at hSw); go_simp; (try with_reducible rfl))
            simp only [Act.put]
            refine wpAnyZ_take (i := 18) (v := ?vbs18) rfl (by kernel_rfl) (by kernel_rfl) (by kernel_rfl) (by kernel_rfl) (fun _ _ _ h => h) (Or.inl ⟨by kernel_rfl, ?ybs18⟩) (by with_reducible assumption) ?rbs18
            case ybs18 => (intro w hSw; (try dsimp only at hSw); go_simp; (try with_reducible rfl))
            simp only [Act.put]
            refine wpAnyZ_last (i := 19) (by kernel_rfl) rfl (by kernel_rfl) ?_
            intro K19 hK19
            go_simp
            refine hK19.out _ _ ?_
            clear hK19
            go_wp2_with fail
            go_meet
            exact ⟨by first | rfl | (rw [hbde]; rfl), Lib.hid (below_on B1.out hS2.1.out), Lib.hid (blk_b K1.out hS2.1.out)⟩
          · subst hbf
            refine wp_region_Z (S := fun w' => Hid (Below W.heap.size W w') ∧ w'.cell? ⟨w.heap.size, 0, none⟩ = some (.int .i64 m) ∧ w'.cell? ⟨w.heap.size, 3, none⟩ = some (.slice (some ⟨b, off, none⟩) ss.length c3) ∧ w'.cell? ⟨V, 0, none⟩ = some (.int .i64 s.fr) ∧ w'.cell? ⟨V, 1, none⟩ = some (.string s.le) ∧ w'.cell? ⟨V, 2, none⟩ = some (.int .i64 s.to_) ∧ w'.cell? ⟨V, 3, none⟩ = some (.int .i64 s.co) ∧ w'.cell? ⟨b, off + j * 4, none⟩ = some (.int .i64 p.fr) ∧ w'.cell? ⟨b, off + j * 4 + 1, none⟩ = some (.string p.le) ∧ w'.cell? ⟨b, off + j * 4 + 2, none⟩ = some (.int .i64 p.to_) ∧ w'.cell? ⟨b, off + j * 4 + 3, none⟩ = some (.int .i64 p.co)) (by kernel_rfl) hS0 (fun hS => ?_)
            clear hS0
            refine wpAnyZ_take (i := 0) (v := ?vep0) rfl (by kernel_rfl) (by kernel_rfl) (by kernel_rfl) (by kernel_rfl) (fun _ _ _ h => h) (Or.inl ⟨by kernel_rfl, ?yep0⟩) (by with_reducible assumption) ?rep0
            case yep0 => (intro w hSw; (try dsimp only at hSw); go_simp; (try with_reducible rfl))
            simp only [Act.put, List.setIfInBounds_toArray]
            refine wpAnyZ_take (i := 1) (v := ?vep1) rfl (by kernel_rfl) (by kernel_rfl) (by kernel_rfl) (by kernel_rfl) (fun _ _ _ h => h) (Or.inl ⟨by kernel_rfl, ?yep1⟩) (by with_reducible assumption) ?rep1
            case yep1 => (intro w hSw; (try dsimp only at hSw); go_simp; (try with_reducible rfl))
            simp only [Act.put]
            refine wpAnyZ_take (i := 2) (v := ?vep2) rfl (by kernel_rfl) (by kernel_rfl) (by kernel_rfl) (by kernel_rfl) (fun _ _ _ h => h) (Or.inl ⟨by kernel_rfl, ?yep2⟩) (by with_reducible assumption) ?rep2
            case yep2 => (intro w hSw; (try dsimp only at hSw); go_simp; (try with_reducible rfl))
            simp only [Act.put]
            refine wpAnyZ_step (i := 3) (by kernel_rfl) rfl ?_
            intro K3 hK3
            go_simp
            refine (l3Step_is s m _ _ m1 m2 HBO.out).mono ?_
            rintro e w5 ⟨rfl, hb5⟩
            have hS1a := KS.out _ (below_on hS.1.out hb5.out)
            refine hK3.out _ _ hS1a (fun hS1 => ?_)
            clear hS1a hS
            clear hK3
            (try simp only [Act.put])
            refine wpAnyZ_take (i := 4) (v := ?veq4) rfl (by kernel_rfl) (by kernel_rfl) (by kernel_rfl) (by kernel_rfl) (fun _ _ _ h => h) (Or.inl ⟨by kernel_rfl, ?yeq4⟩) (by with_reducible assumption) ?req4
            case yeq4 => (intro w hSw; (try dsimp only at hSw); go_simp; (try with_reducible rfl))
            simp only [Act.put]
            refine wpAnyZ_take (i := 5) (v := ?veq5) rfl (by kernel_rfl) (by kernel_rfl) (by kernel_rfl) (by kernel_rfl) (fun _ _ _ h => h) (Or.inl ⟨by kernel_rfl, ?yeq5⟩) (by with_reducible assumption) ?req5
            case yeq5 => (intro w hSw; (try dsimp only at hSw); go_simp; (try with_reducible rfl))
            simp only [Act.put]
            refine wpAnyZ_take (i := 6) (v := ?veq6) rfl (by kernel_rfl) (by kernel_rfl) (by kernel_rfl) (by kernel_rfl) (fun _ _ _ h => h) (Or.inl ⟨by kernel_rfl, ?yeq6⟩) (by with_reducible assumption) ?req6
            case yeq6 => (intro w hSw; (try dsimp only at hSw); go_simp; (try with_reducible rfl))
            simp only [Act.put]
            refine wpAnyZ_take (i := 7) (v := ?veq7) rfl (by kernel_rfl) (by kernel_rfl) (by kernel_rfl) (by kernel_rfl) (fun _ _ _ h => h) (Or.inl ⟨by kernel_rfl, ?yeq7⟩) (by with_reducible assumption) ?req7
            case yeq7 => (intro w hSw; (try dsimp only at hSw); go_simp; (try with_reducible rfl))
            simp only [Act.put]
            refine wpAnyZ_take (i := 8) (v := ?veq8) rfl (by kernel_rfl) (by kernel_rfl) (by kernel_rfl) (by kernel_rfl) (fun _ _ _ h => h) (Or.inl ⟨by kernel_rfl, ?yeq8⟩) (by with_reducible assumption) ?req8
            case yeq8 => (intro w hSw; (try dsimp only at hSw); go_simp; (try with_reducible rfl))
            simp only [Act.put]
            refine wpAnyZ_take (i := 9) (v := ?veq9) rfl (by kernel_rfl) (by kernel_rfl) (by kernel_rfl) (by kernel_rfl) (fun _ _ _ h => h) (Or.inl ⟨by kernel_rfl, ?yeq9⟩) (by with_reducible assumption) ?req9
            case yeq9 => (intro w hSw; (try dsimp only at hSw); go_simp; (try with_reducible rfl))
            simp only [Act.put]
            refine wpAnyZ_take (i := 10) (v := ?veq10) rfl (by kernel_rfl) (by kernel_rfl) (by kernel_rfl) (by kernel_rfl) (fun _ _ _ h => h) (Or.inl ⟨by kernel_rfl, ?yeq10⟩) (by with_reducible assumption) ?req10
            case yeq10 => (intro w hSw; (try dsimp only at hSw); go_simp; (try with_reducible rfl))
            simp only [Act.put]
            refine wpAnyZ_take (i := 11) (v := ?veq11) rfl (by kernel_rfl) (by kernel_rfl) (by kernel_rfl) (by kernel_rfl) (fun _ _ _ h => h) (Or.inl ⟨by kernel_rfl, ?yeq11⟩) (by with_reducible assumption) ?req11
            case yeq11 => (intro w hSw; (try dsimp only at hSw); go_simp; (try with_reducible rfl))
            simp only [Act.put]
            refine wpAnyZ_take (i := 12) (v := ?veq12) rfl (by kernel_rfl) (by kernel_rfl) (by kernel_rfl) (by kernel_rfl) (fun _ _ _ h => h) (Or.inl ⟨by kernel_rfl, ?yeq12⟩) (by with_reducible assumption) ?req12
            case yeq12 => (intro w hSw; (try dsimp only at hSw); go_simp; (try with_reducible rfl))
            simp only [Act.put]
            refine wpAnyZ_take (i := 13) (v := ?veq13) rfl (by kernel_rfl) (by kernel_rfl) (by kernel_rfl) (by kernel_rfl) (fun _ _ _ h => h) (Or.inl ⟨by kernel_rfl, ?yeq13⟩) (by with_reducible assumption) ?req13
            case yeq13 => (intro w hSw; (try dsimp only at hSw); go_simp; (try with_reducible rfl))
            simp only [Act.put]
            refine wpAnyZ_take (i := 14) (v := ?veq14) rfl (by kernel_rfl) (by kernel_rfl) (by kernel_rfl) (by kernel_rfl) (fun _ _ _ h => h) (Or.inl ⟨by kernel_rfl, ?yeq14⟩) (by with_reducible assumption) ?req14
            case yeq14 => (intro w hSw; (try dsimp only at hSw); go_simp; (try with_reducible rfl))
            simp only [Act.put]
            refine wpAnyZ_take (i := 15) (v := ?veq15) rfl (by kernel_rfl) (by kernel_rfl) (by kernel_rfl) (by kernel_rfl) (fun _ _ _ h => h) (Or.inl ⟨by kernel_rfl, ?yeq15⟩) (by with_reducible assumption) ?req15
            case yeq15 => (intro w hSw; (try dsimp only at hSw); go_simp; (try with_reducible rfl))
            simp only [Act.put]
            refine wpAnyZ_step (i := 16) (by kernel_rfl) rfl ?_
            intro K16 hK16
            go_simp
            refine (l3Before_is p s _ _ (stepOk_l HP.out) (stepOk_l HBO.out) HBF.out).mono ?_
            rintro e w6 ⟨rfl, hb6⟩
            have hS2a := KS.out _ (below_on hS1.1.out hb6.out)
            refine hK16.out _ _ hS2a (fun hS2 => ?_)
            clear hS2a
            clear hK16
            (try simp only [Act.put])
            refine wpAnyZ_take (i := 17) (v := ?ves17) rfl (by kernel_rfl) (by kernel_rfl) (by kernel_rfl) (by kernel_rfl) (fun _ _ _ h => h) (Or.inl ⟨by kernel_rfl, ?yes17⟩) (by with_reducible assumption) ?res17
            case yes17 => (intro w hSw; (try dsimp only at hSw); go_simp; (try with_reducible rfl))
            simp only [Act.put]
            refine wpAnyZ_take (i := 18) (v := ?ves18) rfl (by kernel_rfl) (by kernel_rfl) (by kernel_rfl) (by kernel_rfl) (fun _ _ _ h => h) (Or.inl ⟨by kernel_rfl, ?yes18⟩) (by with_reducible assumption) ?res18
            case yes18 => (intro w hSw; (try dsimp only at hSw); go_simp; (try with_reducible rfl))
            simp only [Act.put]
            refine wpAnyZ_last (i := 19) (by kernel_rfl) rfl (by kernel_rfl) ?_
            intro K19 hK19
            go_simp
            refine hK19.out _ _ ?_
            clear hK19
            go_wp2_with fail
            go_meet
            exact ⟨by first | rfl | (rw [hbde]; rfl), Lib.hid (below_on B1.out hS2.1.out), Lib.hid (blk_b K1.out hS2.1.out)⟩
      · have e : bd = true := HBD.out.2.2.1 hbo
        subst e
        subst hbo
        have KS : Hid (∀ w', Below W.heap.size W w' → (Hid (Below W.heap.size W w') ∧ w'.cell? ⟨w.heap.size, 0, none⟩ = some (.int .i64 m) ∧ w'.cell? ⟨V, 0, none⟩ = some (.int .i64 s.fr) ∧ w'.cell? ⟨V, 1, none⟩ = some (.string s.le) ∧ w'.cell? ⟨V, 2, none⟩ = some (.int .i64 s.to_) ∧ w'.cell? ⟨V, 3, none⟩ = some (.int .i64 s.co))) := fun w' h => by
          have a := blk_b K1.out h
          have v := blk_b V1.out h
          exact ⟨h, a.cell 0, v.cell 0, v.cell 1, v.cell 2, v.cell 3⟩
        have hS0 := KS.out W.drew ((Below.refl _ _).drew)
        refine wp_region_Z (S := fun w' => Hid (Below W.heap.size W w') ∧ w'.cell? ⟨w.heap.size, 0, none⟩ = some (.int .i64 m) ∧ w'.cell? ⟨V, 0, none⟩ = some (.int .i64 s.fr) ∧ w'.cell? ⟨V, 1, none⟩ = some (.string s.le) ∧ w'.cell? ⟨V, 2, none⟩ = some (.int .i64 s.to_) ∧ w'.cell? ⟨V, 3, none⟩ = some (.int .i64 s.co)) (by kernel_rfl) hS0 (fun hS => ?_)
        clear hS0
        refine wpAnyZ_take (i := 0) (v := ?vcp0) rfl (by kernel_rfl) (by kernel_rfl) (by kernel_rfl) (by kernel_rfl) (fun _ _ _ h => h) (Or.inl ⟨by kernel_rfl, ?ycp0⟩) (by with_reducible assumption) ?rcp0
        case ycp0 => (intro w hSw; (try dsimp only at hSw); go_simp; (try with_reducible rfl))
        simp only [Act.put, List.setIfInBounds_toArray]
        refine wpAnyZ_take (i := 1) (v := ?vcp1) rfl (by kernel_rfl) (by kernel_rfl) (by kernel_rfl) (by kernel_rfl) (fun _ _ _ h => h) (Or.inl ⟨by kernel_rfl, ?ycp1⟩) (by with_reducible assumption) ?rcp1
        case ycp1 => (intro w hSw; (try dsimp only at hSw); go_simp; (try with_reducible rfl))
        simp only [Act.put]
        refine wpAnyZ_take (i := 2) (v := ?vcp2) rfl (by kernel_rfl) (by kernel_rfl) (by kernel_rfl) (by kernel_rfl) (fun _ _ _ h => h) (Or.inl ⟨by kernel_rfl, ?ycp2⟩) (by with_reducible assumption) ?rcp2
        case ycp2 => (intro w hSw; (try dsimp only at hSw); go_simp; (try with_reducible rfl))
        simp only [Act.put]
        refine wpAnyZ_step (i := 3) (by kernel_rfl) rfl ?_
        intro K3 hK3
        go_simp
        refine (l3Step_is s m _ _ m1 m2 HBO.out).mono ?_
        rintro e w5 ⟨rfl, hb5⟩
        have hS1a := KS.out _ (below_on hS.1.out hb5.out)
        refine hK3.out _ _ hS1a (fun hS1 => ?_)
        clear hS1a hS
        clear hK3
        (try simp only [Act.put])
        refine wpAnyZ_take (i := 4) (v := ?vcq4) rfl (by kernel_rfl) (by kernel_rfl) (by kernel_rfl) (by kernel_rfl) (fun _ _ _ h => h) (Or.inl ⟨by kernel_rfl, ?ycq4⟩) (by with_reducible assumption) ?rcq4
        case ycq4 => (intro w hSw; (try dsimp only at hSw); go_simp; (try with_reducible rfl))
        simp only [Act.put]
        refine wpAnyZ_take (i := 5) (v := ?vcq5) rfl (by kernel_rfl) (by kernel_rfl) (by kernel_rfl) (by kernel_rfl) (fun _ _ _ h => h) (Or.inl ⟨by kernel_rfl, ?ycq5⟩) (by with_reducible assumption) ?rcq5
        case ycq5 => (intro w hSw; (try dsimp only at hSw); go_simp; (try with_reducible rfl))
        simp only [Act.put]
        refine wpAnyZ_take (i := 6) (v := undef) rfl (by kernel_rfl) (by kernel_rfl) (by kernel_rfl) (by kernel_rfl) (fun _ _ _ h => h) (Or.inr ⟨by kernel_rfl, rfl⟩) (by with_reducible assumption) ?rc6
        simp only [Act.put]
        refine wpAnyZ_take (i := 7) (v := undef) rfl (by kernel_rfl) (by kernel_rfl) (by kernel_rfl) (by kernel_rfl) (fun _ _ _ h => h) (Or.inr ⟨by kernel_rfl, rfl⟩) (by with_reducible assumption) ?rc7
        simp only [Act.put]
        refine wpAnyZ_take (i := 8) (v := undef) rfl (by kernel_rfl) (by kernel_rfl) (by kernel_rfl) (by kernel_rfl) (fun _ _ _ h => h) (Or.inr ⟨by kernel_rfl, rfl⟩) (by with_reducible assumption) ?rc8
        simp only [Act.put]
        refine wpAnyZ_take (i := 9) (v := undef) rfl (by kernel_rfl) (by kernel_rfl) (by kernel_rfl) (by kernel_rfl) (fun _ _ _ h => h) (Or.inr ⟨by kernel_rfl, rfl⟩) (by with_reducible assumption) ?rc9
        simp only [Act.put]
        refine wpAnyZ_take (i := 10) (v := undef) rfl (by kernel_rfl) (by kernel_rfl) (by kernel_rfl) (by kernel_rfl) (fun _ _ _ h => h) (Or.inr ⟨by kernel_rfl, rfl⟩) (by with_reducible assumption) ?rc10
        simp only [Act.put]
        refine wpAnyZ_take (i := 11) (v := undef) rfl (by kernel_rfl) (by kernel_rfl) (by kernel_rfl) (by kernel_rfl) (fun _ _ _ h => h) (Or.inr ⟨by kernel_rfl, rfl⟩) (by with_reducible assumption) ?rc11
        simp only [Act.put]
        refine wpAnyZ_take (i := 12) (v := undef) rfl (by kernel_rfl) (by kernel_rfl) (by kernel_rfl) (by kernel_rfl) (fun _ _ _ h => h) (Or.inr ⟨by kernel_rfl, rfl⟩) (by with_reducible assumption) ?rc12
        simp only [Act.put]
        refine wpAnyZ_take (i := 13) (v := undef) rfl (by kernel_rfl) (by kernel_rfl) (by kernel_rfl) (by kernel_rfl) (fun _ _ _ h => h) (Or.inr ⟨by kernel_rfl, rfl⟩) (by with_reducible assumption) ?rc13
        simp only [Act.put]
        refine wpAnyZ_take (i := 14) (v := undef) rfl (by kernel_rfl) (by kernel_rfl) (by kernel_rfl) (by kernel_rfl) (fun _ _ _ h => h) (Or.inr ⟨by kernel_rfl, rfl⟩) (by with_reducible assumption) ?rc14
        simp only [Act.put]
        refine wpAnyZ_take (i := 15) (v := undef) rfl (by kernel_rfl) (by kernel_rfl) (by kernel_rfl) (by kernel_rfl) (fun _ _ _ h => h) (Or.inr ⟨by kernel_rfl, rfl⟩) (by with_reducible assumption) ?rc15
        simp only [Act.put]
        refine wpAnyZ_take (i := 16) (v := undef) rfl (by kernel_rfl) (by kernel_rfl) (by kernel_rfl) (by kernel_rfl) (fun _ _ _ h => h) (Or.inr ⟨by kernel_rfl, rfl⟩) (by with_reducible assumption) ?rc16
        simp only [Act.put]
        refine wpAnyZ_take (i := 17) (v := undef) rfl (by kernel_rfl) (by kernel_rfl) (by kernel_rfl) (by kernel_rfl) (fun _ _ _ h => h) (Or.inr ⟨by kernel_rfl, rfl⟩) (by with_reducible assumption) ?rc17
        simp only [Act.put]
        refine wpAnyZ_take (i := 18) (v := undef) rfl (by kernel_rfl) (by kernel_rfl) (by kernel_rfl) (by kernel_rfl) (fun _ _ _ h => h) (Or.inr ⟨by kernel_rfl, rfl⟩) (by with_reducible assumption) ?rc18
        simp only [Act.put]
        refine wpAnyZ_last (i := 19) (by kernel_rfl) rfl (by kernel_rfl) ?_
        intro K19 hK19
        go_simp
        refine hK19.out _ _ ?_
        clear hK19
        go_wp2_with fail
        go_meet
        exact ⟨rfl, Lib.hid (below_on B1.out hS1.1.out), Lib.hid (blk_b K1.out hS1.1.out)⟩
    case rest =>
      obtain ⟨rfl, hbx, hkx⟩ := hcut
      clear B1 K1 V1
      rcases Bool.eq_false_or_eq_true bd with h | h
      · subst h
        have e : r = false := by rw [HBD.out.1]; rfl
        subst e
        go_wp2_with fail
        go_ret
        exact ⟨rfl, hbx.out⟩
      · subst h
        have HRN : Hid (r = stepsF m (prevO ss (k + 1)) (ss.drop (k + 1))) := by show _ = _; rw [HBD.out.1, prevO, HG.out]; rfl
        have HPN : Hid (∀ j, k + 1 = j + 1 → stepOk m (ss.getD j default) = true) := fun j hj => by
          have e : j = k := by omega
          subst e
          rw [HG.out, HBO.out]; exact HBD.out.2.1 rfl
        go_wp2_with fail
        go_roundw
        case rel => exact ⟨k + 1, by omega, by go_num, hbx, hkx, HRN, HPN⟩
        case measure => simp [intOf]; omega
end Go.Proofs.YtfdbbopanankgaaDoor
