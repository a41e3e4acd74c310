/- Products of squares: each the plain function of its numbers, in new memory; nothing that was there changes. Products of squares: the plain function of their numbers, in new memory; nothing that was there changes. -/
import Derived.Test.YtjhaegkefagngaaGreatDoorSq
import Derived.Test.YtjhaegkefagngaaGreatDoorLastOp
import Derived.Laws.CopyOwn
namespace Go.Proofs.YtjhaegkefagngaaGreatDoor
open Go.RowKit
set_option maxHeartbeats 2000000
set_option maxRecDepth 100000
set_option linter.unusedVariables false
theorem plus_is (a b v : Int) (w : World) (ha : 0 ≤ a) (ha' : a ≤ 1000000) (hb : 0 ≤ b) (hb' : b ≤ 1000000) (hv : min (a + b) 1000000 = v) :
    Calls Tryz.prog 65 #[.int .i64 a, .int .i64 b] w fun e w' => e = .returned (.int .i64 v) ∧ w = w' := by
  subst hv; exact plus_any a b w ha ha' hb hb'
theorem least_is (a b v : Int) (w : World) (hv : min a b = v) :
    Calls Tryz.prog 66 #[.int .i64 a, .int .i64 b] w fun e w' => e = .returned (.int .i64 v) ∧ w = w' := by
  subst hv; exact ringMin_any a b w
/-- What a row becomes behind a square. -/
def behindL (n : Nat) (F : Nat → Int) (zs : List Int) : List Int := (List.range n).map fun k => dot F (fun l => zs.getD (l * n + k) 0) n
theorem behindL_len (n : Nat) (F : Nat → Int) (zs : List Int) : (behindL n F zs).length = n := by simp [behindL]
theorem behindL_at {n k : Nat} (F : Nat → Int) (zs : List Int) (hk : k < n) : (behindL n F zs).getD k 0 = dot F (fun l => zs.getD (l * n + k) 0) n := by
  unfold behindL
  rw [List.getD_eq_getElem?_getD, List.getElem?_map, List.getElem?_range hk]
  rfl

theorem behind_any (n p g h off hc : Nat) (F : Nat → Int) (zs : List Int) (w : World) (n1 : 1 ≤ n) (n2 : n ≤ 4) (hp : Hid (p = n * n)) (hz : Hid (zs.length = p)) (p1 : p ≤ 16) (hq : Sq w g zs)
    (hF : Hid (∀ l, l < n → 0 ≤ F l ∧ F l ≤ 1000000)) (hG : Hid (∀ q, q < p → 0 ≤ zs.getD q 0 ∧ zs.getD q 0 ≤ 1000000)) (hh : h < w.heap.size) (hrow : Hid (∀ l, l < n → w.cell? ⟨h, off + l, none⟩ = some (.int .i64 (F l)))) :
    Calls Tryz.prog 59 #[sqV n (.slice (some ⟨g, 0, none⟩) p p), .slice (some ⟨h, off, none⟩) n hc] w fun e w' => ∃ g', e = .returned (.slice (some ⟨g', 0, none⟩) n n) ∧ Below w.heap.size w w' ∧ w.heap.size ≤ g' ∧ Sq w' g' (behindL n F zs) := by
  have hmk : ∀ w : World, (Instr.makeSlice 59 (.int .i64 (n : Int)) (.int .i64 (n : Int))).run Tryz.prog w = .ok (.slice (some ⟨w.heap.size, 0, none⟩) n n) (w.alloc (.cells (madeCells #[.int .i64 0] n) 56)) :=
    fun w => run_make_row' 59 56 (.int .i64 0) 8 Tryz.underlying59 info_cost rfl .i64 .i64 n (by omega) (by omega) w
  unfold sqV
  go_enter Tryz.func59, Tryz.ntmps59
  go_wp2_with fail
  obtain ⟨R, hR⟩ : ∃ R, R = w.heap.size + 1 := ⟨_, rfl⟩
  obtain ⟨w2, hw2⟩ : ∃ w2, w2 = (w.alloc (.cells (sqC n (.slice (some ⟨g, 0, none⟩) p p)) 61)).alloc (.cells (madeCells #[.int .i64 0] n) 56) := ⟨_, rfl⟩
  have S2 : Hid (Blk w2 w.heap.size 61 (sqC n (.slice (some ⟨g, 0, none⟩) p p))) := by rw [hw2]; exact (Blk.new _ _ _).alloc _
  have Q2 : Hid (Sq w2 R (List.replicate n 0)) := by
    rw [hw2, hR]
    show Blk _ _ _ _
    rw [← made_zero]
    exact blk_new (by simp)
  have Z2 : Hid (Sq w2 g zs) := by rw [hw2]; exact Blk.alloc (Blk.alloc hq _) _
  have B2 : Hid (Below w.heap.size w w2) := by rw [hw2]; exact below_a2 _ _ _
  have hgR : g < R := by have := Blk.lt hq; omega
  have hR1 : w.heap.size < R := by omega
  have hhR : ¬ h = R := by omega
  unfold sqC at hw2
  rw [← hw2, ← hR]
  have hRr : w.heap.size ≤ R := by omega
  clear hw2 hR hmk hq
  have HL : Hid ((behindL n F zs).length = n) := behindL_len n F zs
  go_loopg [14] n (fun gh i wr => ∃ (k : Nat) (cs : List Int), k ≤ n ∧ gh = n - k ∧ i = .int .i64 k ∧ Hid (cs.length = n) ∧ Hid (∀ q, q < k → cs.getD q 0 = dot F (fun l => zs.getD (l * n + q) 0) n) ∧ Hid (Sq wr R cs) ∧ Hid (w2.grownBy wr (some R)))
  case atStart => exact ⟨0, List.replicate n 0, Nat.zero_le _, rfl, rfl, List.length_replicate, (fun q hq => by omega), Q2, World.grownBy.refl _ _⟩
  case round =>
    obtain ⟨k, cs, hk, rfl, rfl, hcl, hpre, hsq, hg2⟩ := hrel
    by_cases hlt : k < n
    · have e3 := (S2.out.grown hg2.out (by omega)).cell 3
      simp [sqC] at e3
      have hcell := hsq.out.at_ (k := k) (by have := hcl.out; omega)
      have hfr := hsq.out.fz k
      have Q3 := Lib.hid (hsq.out.set_ k 1000000)
      have G3 := Lib.hid (grow_trans hg2.out (grow_set wr R k (.int .i64 1000000)))
      obtain ⟨G, hGe⟩ : ∃ G : Nat → Int, G = fun l => zs.getD (l * n + k) 0 := ⟨_, rfl⟩
      have HGe := Lib.hid hGe
      have D1 : Hid (∀ q, q < k → (cs.set k 1000000).getD q 0 = dot F (fun l => zs.getD (l * n + q) 0) n) := fun q hq => by rw [getD_set _ _ _ _ (by have := hcl.out; omega), if_neg (by omega)]; exact hpre.out q hq
      have D2 : Hid ((cs.set k 1000000).getD k 0 = dot F G 0) := by show _ = _; rw [getD_set _ _ _ _ (by have := hcl.out; omega), if_pos rfl]; rfl
      have i0 : (0 : Int) ≤ (k : Int) := by omega
      have i1 : (k : Int) < (n : Int) := by omega
      clear hGe
      go_wp2_with fail
      clear hcell hfr e3
      go_loopg [25] n (fun gi i wi => ∃ (l : Nat) (ds : List Int), l ≤ n ∧ gi = n - l ∧ i = .int .i64 l ∧ Hid (ds.length = n) ∧ Hid (∀ q, q < k → ds.getD q 0 = dot F (fun l => zs.getD (l * n + q) 0) n) ∧ Hid (ds.getD k 0 = dot F G l) ∧ Hid (Sq wi R ds) ∧ Hid (w2.grownBy wi (some R)))
      case atStart => exact ⟨0, cs.set k 1000000, Nat.zero_le _, rfl, rfl, by show _ = _; rw [List.length_set]; exact hcl.out, D1, D2, Q3, G3⟩
      case round =>
        obtain ⟨l, ds, hl, rfl, rfl, hdl, hd1, hd2, hsq2, hg3⟩ := hrel
        by_cases hll : l < n
        · obtain ⟨y, hy⟩ : ∃ y, y = l * n := ⟨_, rfl⟩
          have hyn : y + n ≤ p := by
            have : (l + 1) * n ≤ n * n := Nat.mul_le_mul_right n hll
            rw [Nat.succ_mul] at this
            rw [hy, hp.out]; exact this
          have HY := Lib.hid hy
          obtain ⟨c0, hc0⟩ : ∃ c0, c0 = ds.getD k 0 := ⟨_, rfl⟩
          obtain ⟨z, hze⟩ : ∃ z, z = zs.getD (y + k) 0 := ⟨_, rfl⟩
          obtain ⟨u, hu⟩ : ∃ u, u = F l := ⟨_, rfl⟩
          have hub := hF.out l hll
          rw [← hu] at hub
          have hzb := hG.out (y + k) (by omega)
          rw [← hze] at hzb
          obtain ⟨t, ht⟩ : ∃ t, min (u + z) 1000000 = t := ⟨_, rfl⟩
          obtain ⟨c1, hc1⟩ : ∃ c1, min c0 t = c1 := ⟨_, rfl⟩
          have HT := Lib.hid ht
          have HC := Lib.hid hc1
          have HD : Hid (c1 = dot F G (l + 1)) := by
            have f2 : G l = z := by rw [HGe.out]; show zs.getD (l * n + k) 0 = z; rw [← hy]; exact hze.symm
            show _ = min (dot F G l) (min (F l + G l) 1000000)
            rw [← hd2.out, ← hc0, ← hu, f2, ht, hc1]
          have hB3 := B2.out.grown hg3.out B2.out.size (fun j hj => by cases hj; omega)
          have hrc : wr.cell? ⟨h, off + l, none⟩ = some (.int .i64 u) := by rw [hu]; exact (hB3.cell (p := ⟨h, off + l, none⟩) hh).trans (hrow.out l hll)
          have keep : ∀ w', w2.grownBy w' (some R) → w'.heap[R]? = wr.heap[R]? → (Hid (w2.grownBy w' (some R) ∧ w'.heap[R]? = wr.heap[R]?) ∧ w'.cell? ⟨w.heap.size, 0, none⟩ = some (.func (.func 65) #[] #[]) ∧ w'.cell? ⟨w.heap.size, 1, none⟩ = some (.int .i64 0) ∧ w'.cell? ⟨w.heap.size, 2, none⟩ = some (.func (.func 66) #[] #[]) ∧ w'.cell? ⟨w.heap.size, 3, none⟩ = some (.int .i64 1000000) ∧ w'.cell? ⟨w.heap.size, 4, none⟩ = some (.int .i64 n) ∧ w'.cell? ⟨w.heap.size, 5, none⟩ = some (.slice (some ⟨g, 0, none⟩) p p) ∧ w'.cell? ⟨R, k, none⟩ = some (.int .i64 c0) ∧ w'.cell? ⟨g, y + k, none⟩ = some (.int .i64 z)) := by
            intro w' h' hR'
            obtain ⟨a0, a1, a2, a3, a4, a5⟩ := six_cells (show Blk w' w.heap.size 61 #[_, _, _, _, _, _] from S2.out.grown h' (by omega))
            have hq2 : Sq w' R ds := hR'.trans hsq2.out
            exact ⟨⟨h', hR'⟩, a0, a1, a2, a3, a4, a5, by rw [hc0]; exact hq2.at_ (by have := hdl.out; omega), by rw [hze]; exact Nm.at_ (Blk.grown Z2.out h' (by omega)) (by have := hz.out; omega)⟩
          have K := Lib.hid keep
          have hRw : R < wr.heap.size := Blk.lt hsq2.out
          have KB : Hid (∀ w', w2.grownBy w' (some R) ∧ w'.heap[R]? = wr.heap[R]? → ∀ w'', Below w'.heap.size w' w'' → R < w'.heap.size → (Hid (w2.grownBy w'' (some R) ∧ w''.heap[R]? = wr.heap[R]?) ∧ w''.cell? ⟨w.heap.size, 0, none⟩ = some (.func (.func 65) #[] #[]) ∧ w''.cell? ⟨w.heap.size, 1, none⟩ = some (.int .i64 0) ∧ w''.cell? ⟨w.heap.size, 2, none⟩ = some (.func (.func 66) #[] #[]) ∧ w''.cell? ⟨w.heap.size, 3, none⟩ = some (.int .i64 1000000) ∧ w''.cell? ⟨w.heap.size, 4, none⟩ = some (.int .i64 n) ∧ w''.cell? ⟨w.heap.size, 5, none⟩ = some (.slice (some ⟨g, 0, none⟩) p p) ∧ w''.cell? ⟨R, k, none⟩ = some (.int .i64 c0) ∧ w''.cell? ⟨g, y + k, none⟩ = some (.int .i64 z))) := fun w' h' w'' hb hRs => keep _ (grow_trans h'.1 (grow_below_any hb (some R))) ((hb.block R hRs).trans h'.2)
          have hS0 := K.out wr.drew (grow_trans hg3.out (grow_drew _ _)) rfl
          have i2 : (0 : Int) ≤ (l : Int) := by omega
          have i3 : (l : Int) < (n : Int) := by omega
          clear keep hc0 hze hu ht hc1 hB3 hy
          go_wp2_with fail
          clear hrc
          refine wp_region_Z (S := fun w' => (Hid (w2.grownBy w' (some R) ∧ w'.heap[R]? = wr.heap[R]?) ∧ w'.cell? ⟨w.heap.size, 0, none⟩ = some (.func (.func 65) #[] #[]) ∧ w'.cell? ⟨w.heap.size, 1, none⟩ = some (.int .i64 0) ∧ w'.cell? ⟨w.heap.size, 2, none⟩ = some (.func (.func 66) #[] #[]) ∧ w'.cell? ⟨w.heap.size, 3, none⟩ = some (.int .i64 1000000) ∧ w'.cell? ⟨w.heap.size, 4, none⟩ = some (.int .i64 n) ∧ w'.cell? ⟨w.heap.size, 5, none⟩ = some (.slice (some ⟨g, 0, none⟩) p p) ∧ w'.cell? ⟨R, k, none⟩ = some (.int .i64 c0) ∧ w'.cell? ⟨g, y + k, none⟩ = some (.int .i64 z))) (by kernel_rfl) hS0 (fun hS => ?_)
          clear hS0
          refine wpAnyZ_take (i := 0) (v := ?vb0) rfl (by kernel_rfl) (by kernel_rfl) (by kernel_rfl) (by kernel_rfl) (fun _ _ _ h => h) (Or.inl ⟨by rfl, ?yb0⟩) (by with_reducible assumption) ?rb0
          case yb0 => (intro w hSw; (try dsimp only at hSw); go_simp; (try with_reducible rfl))
          simp only [Act.put, List.setIfInBounds_toArray]
          refine wpAnyZ_take (i := 1) (v := ?vb1) rfl (by kernel_rfl) (by kernel_rfl) (by kernel_rfl) (by kernel_rfl) (fun _ _ _ h => h) (Or.inl ⟨by rfl, ?yb1⟩) (by with_reducible assumption) ?rb1
          case yb1 => (intro w hSw; (try dsimp only at hSw); go_simp; (try with_reducible rfl))
          simp only [Act.put]
          refine wpAnyZ_take (i := 2) (v := ?vb2) rfl (by kernel_rfl) (by kernel_rfl) (by kernel_rfl) (by kernel_rfl) (fun _ _ _ h => h) (Or.inl ⟨by rfl, ?yb2⟩) (by with_reducible assumption) ?rb2
          case yb2 => (intro w hSw; (try dsimp only at hSw); go_simp; (try with_reducible rfl))
          simp only [Act.put]
          refine wpAnyZ_take (i := 3) (v := ?vb3) rfl (by kernel_rfl) (by kernel_rfl) (by kernel_rfl) (by kernel_rfl) (fun _ _ _ h => h) (Or.inl ⟨by rfl, ?yb3⟩) (by with_reducible assumption) ?rb3
          case yb3 => (intro w hSw; (try dsimp only at hSw); go_simp; (try with_reducible rfl))
          simp only [Act.put]
          refine wpAnyZ_take (i := 4) (v := ?vb4) rfl (by kernel_rfl) (by kernel_rfl) (by kernel_rfl) (by kernel_rfl) (fun _ _ _ h => h) (Or.inl ⟨by rfl, ?yb4⟩) (by with_reducible assumption) ?rb4
          case yb4 => (intro w hSw; (try dsimp only at hSw); go_simp; (try with_reducible rfl))
          simp only [Act.put]
          refine wpAnyZ_take (i := 5) (v := ?vb5) rfl (by kernel_rfl) (by kernel_rfl) (by kernel_rfl) (by kernel_rfl) (fun _ _ _ h => h) (Or.inl ⟨by rfl, ?yb5⟩) (by with_reducible assumption) ?rb5
          case yb5 => (intro w hSw; (try dsimp only at hSw); go_simp; (try with_reducible rfl))
          simp only [Act.put]
          refine wpAnyZ_take (i := 6) (v := ?vb6) rfl (by kernel_rfl) (by kernel_rfl) (by kernel_rfl) (by kernel_rfl) (fun _ _ _ h => h) (Or.inl ⟨by rfl, ?yb6⟩) (by with_reducible assumption) ?rb6
          case yb6 => (intro w hSw; (try dsimp only at hSw); go_simp; (try with_reducible rfl))
          simp only [Act.put]
          refine wpAnyZ_take (i := 7) (v := ?vb7) rfl (by kernel_rfl) (by kernel_rfl) (by kernel_rfl) (by kernel_rfl) (fun _ _ _ h => h) (Or.inl ⟨by rfl, ?yb7⟩) (by with_reducible assumption) ?rb7
          case yb7 => (intro w hSw; (try dsimp only at hSw); go_simp; (try with_reducible rfl))
          simp only [Act.put]
          refine wpAnyZ_take (i := 8) (v := ?vb8) rfl (by kernel_rfl) (by kernel_rfl) (by kernel_rfl) (by kernel_rfl) (fun _ _ _ h => h) (Or.inl ⟨by rfl, ?yb8⟩) (by with_reducible assumption) ?rb8
          case yb8 => (intro w hSw; (try dsimp only at hSw); go_simp; (try with_reducible rfl))
          simp only [Act.put]
          refine wpAnyZ_take (i := 9) (v := ?vb9) rfl (by kernel_rfl) (by kernel_rfl) (by kernel_rfl) (by kernel_rfl) (fun _ _ _ h => h) (Or.inl ⟨by rfl, ?yb9⟩) (by with_reducible assumption) ?rb9
          case yb9 => (intro w hSw; (try dsimp only at hSw); go_simp; (try with_reducible rfl))
          simp only [Act.put]
          refine wpAnyZ_take (i := 10) (v := ?vb10) rfl (by kernel_rfl) (by kernel_rfl) (by kernel_rfl) (by kernel_rfl) (fun _ _ _ h => h) (Or.inl ⟨by rfl, ?yb10⟩) (by with_reducible assumption) ?rb10
          case yb10 => (intro w hSw; (try dsimp only at hSw); go_simp; (try with_reducible rfl))
          simp only [Act.put]
          refine wpAnyZ_take (i := 11) (v := ?vb11) rfl (by kernel_rfl) (by kernel_rfl) (by kernel_rfl) (by kernel_rfl) (fun _ _ _ h => h) (Or.inl ⟨by rfl, ?yb11⟩) (by with_reducible assumption) ?rb11
          case yb11 => (intro w hSw; (try dsimp only at hSw); go_simp; (try with_reducible rfl))
          simp only [Act.put]
          refine wpAnyZ_take (i := 12) (v := ?vb12) rfl (by kernel_rfl) (by kernel_rfl) (by kernel_rfl) (by kernel_rfl) (fun _ _ _ h => h) (Or.inl ⟨by rfl, ?yb12⟩) (by with_reducible assumption) ?rb12
          case yb12 => (intro w hSw; (try dsimp only at hSw); go_simp; (try with_reducible rfl))
          simp only [Act.put]
          refine wpAnyZ_take (i := 13) (v := ?vb13) rfl (by kernel_rfl) (by kernel_rfl) (by kernel_rfl) (by kernel_rfl) (fun _ _ _ h => h) (Or.inl ⟨by rfl, ?yb13⟩) (by with_reducible assumption) ?rb13
          case yb13 => (intro w hSw; (try dsimp only at hSw); go_simp; (try with_reducible rfl))
          simp only [Act.put]
          refine wpAnyZ_take (i := 14) (v := ?vb14) rfl (by kernel_rfl) (by kernel_rfl) (by kernel_rfl) (by kernel_rfl) (fun _ _ _ h => h) (Or.inl ⟨by rfl, ?yb14⟩) (by with_reducible assumption) ?rb14
          case yb14 => (intro w hSw; (try dsimp only at hSw); go_simp; (try with_reducible rfl))
          simp only [Act.put]
          refine wpAnyZ_take (i := 16) (v := ?vb16) rfl (by kernel_rfl) (by kernel_rfl) (by kernel_rfl) (by kernel_rfl) (fun _ _ _ h => h) (Or.inl ⟨by rfl, ?yb16⟩) (by with_reducible assumption) ?rb16
          case yb16 => (intro w hSw; (try dsimp only at hSw); go_simp; (try with_reducible rfl))
          simp only [Act.put]
          refine wpAnyZ_step (i := 15) (by kernel_rfl) rfl ?_
          intro K1 hK1
          go_simp
          refine (row_is g n p l y n1 n2 hll HY.out hyn _).mono ?_
          rintro e w3 ⟨rfl, hb3⟩
          have hS3 := KB.out _ hS.1.out _ hb3 hRw
          refine hK1.out _ _ hS3 (fun hS1 => ?_)
          clear hK1 hS hS3
          have j2 : (0 : Int) ≤ (k : Int) := by omega
          (try simp only [Act.put])
          refine wpAnyZ_take (i := 17) (v := ?vc17) rfl (by kernel_rfl) (by kernel_rfl) (by kernel_rfl) (by kernel_rfl) (fun _ _ _ h => h) (Or.inl ⟨by rfl, ?yc17⟩) (by with_reducible assumption) ?rc17
          case yc17 => (intro w hSw; (try dsimp only at hSw); go_simp; (try with_reducible rfl))
          simp only [Act.put]
          refine wpAnyZ_take (i := 18) (v := ?vc18) rfl (by kernel_rfl) (by kernel_rfl) (by kernel_rfl) (by kernel_rfl) (fun _ _ _ h => h) (Or.inl ⟨by rfl, ?yc18⟩) (by with_reducible assumption) ?rc18
          case yc18 => (intro w hSw; (try dsimp only at hSw); go_simp; (try with_reducible rfl))
          simp only [Act.put]
          refine wpAnyZ_step (i := 19) (by kernel_rfl) rfl ?_
          intro K2 hK2
          go_simp
          refine (plus_is u z t _ hub.1 hub.2 hzb.1 hzb.2 HT.out).mono ?_
          rintro e w4 ⟨rfl, rfl⟩
          refine hK2.out _ _ hS1 (fun hS2 => ?_)
          clear hK2 hS1
          (try simp only [Act.put])
          refine wpAnyZ_step (i := 20) (by kernel_rfl) rfl ?_
          intro K3 hK3
          go_simp
          refine (least_is c0 t c1 _ HC.out).mono ?_
          rintro e w4 ⟨rfl, rfl⟩
          refine hK3.out _ _ hS2 (fun hS3 => ?_)
          clear hK3 hS2
          have hsq3 : Sq w3 R ds := hS3.1.out.2.trans hsq2.out
          have hfr := hsq3.fz k
          have Q4 := Lib.hid (hsq3.set_ k c1)
          have G4 := Lib.hid (grow_trans hS3.1.out.1 (grow_set w3 R k (.int .i64 c1)))
          have E1 : Hid (∀ q, q < k → (ds.set k c1).getD q 0 = dot F (fun l => zs.getD (l * n + q) 0) n) := fun q hq => by rw [getD_set _ _ _ _ (by have := hdl.out; omega), if_neg (by omega)]; exact hd1.out q hq
          have E2 : Hid ((ds.set k c1).getD k 0 = dot F G (l + 1)) := by show _ = _; rw [getD_set _ _ _ _ (by have := hdl.out; omega), if_pos rfl]; exact HD.out
          have hcl3 : Hid (w3.cell? ⟨R, k, none⟩ = some (.int .i64 c0)) := hS3.2.2.2.2.2.2.2.1
          (try simp only [Act.put])
          refine wpAnyZ_take (i := 21) (v := ?vd21) rfl (by kernel_rfl) (by kernel_rfl) (by kernel_rfl) (by kernel_rfl) (fun _ _ _ h => h) (Or.inl ⟨by rfl, ?yd21⟩) (by with_reducible assumption) ?rd21
          case yd21 => (intro w hSw; (try dsimp only at hSw); go_simp; (try with_reducible rfl))
          simp only [Act.put]
          have hcell := hcl3.out
          clear hsq3
          refine wpAnyZ_last (i := 22) (by kernel_rfl) rfl (by kernel_rfl) ?_
          intro K4 hK4
          go_simp
          refine hK4.out _ _ ?_
          clear hK4 hS3 hcell hfr
          go_wp2_with fail
          go_roundg (n - (l + 1))
          case rel => exact ⟨l + 1, ds.set k c1, by omega, rfl, by go_num, by show _ = _; rw [List.length_set]; exact hdl.out, E1, E2, Q4, G4⟩
          case measure => omega
        · obtain rfl : n = l := by omega
          have D3 : Hid (∀ q, q < k + 1 → ds.getD q 0 = dot F (fun l => zs.getD (l * n + q) 0) n) := fun q hq => by
            by_cases e : q = k
            · subst e
              rw [hd2.out, HGe.out]
            · exact hd1.out q (by omega)
          go_wp2_with fail
          go_roundg (n - (k + 1))
          case rel => exact ⟨k + 1, ds, by omega, rfl, by go_num, hdl, D3, hsq2, hg3⟩
          case measure => omega
    · obtain rfl : n = k := by omega
      have HZS : Hid (cs = behindL n F zs) := eq_of_getD (by rw [hcl.out, HL.out]) (fun q hq => by
        have hq' : q < n := by rw [← hcl.out]; exact hq
        rw [hpre.out q hq', behindL_at F zs hq'])
      go_wp2_with fail
      go_ret
      refine ⟨R, rfl, ?_, hRr, ?_⟩
      · exact B2.out.grown hg2.out B2.out.size (fun j hj => by cases hj; omega)
      · rw [← HZS.out]; exact hsq.out
end Go.Proofs.YtjhaegkefagngaaGreatDoor
namespace Go.Proofs.YtjhaegkefagngaaGreatDoor
open Go.RowKit
set_option maxHeartbeats 2000000
set_option maxRecDepth 100000
set_option linter.unusedVariables false

/-- A copy into a row that is known whole, as one move of a region. -/
theorem step_copy_into {P : Program} {ops : Array Oper} {o : Oper} {a : Act} {w : World} {K : Act → World → Prop} {Q : Exit → Act → World → Prop} {E : Prop} (hgd : o.guard = none) (d s : Operand) (dT sT : TypeId)
    (ho : o.op = .call { callee := .builtin .copy, args := #[d, s], argTypes := #[dT, sT] }) (elem : TypeId) (hu : P.underlying dT = some (.slice elem)) (hsz : (P.info? elem).map (·.size) = some 1)
    (g off dLen dCap : Nat) (ad : Addr) (sLen sCap : Nat) (hd : a.eval d = .slice (some ⟨g, off, none⟩) dLen dCap) (hs : a.eval s = .slice (some ad) sLen sCap)
    (cur : Array Value) (t : TypeId) (hg : w.heap[g]? = some (.cells cur t (0, 0))) (cs : List Value) (hn : cs.length = Nat.min sLen dLen)
    (hsrc : ∀ j v, cs[j]? = some v → w.cell? (ad.add j) = some v) (hfit : off + cs.length ≤ cur.size) (h1 : ∀ v ∈ cs, v.oneCell' = true)
    (h : K (a.put o.dst (goInt cs.length)) (w.setRow g (cur.toList.take off ++ (cs ++ cur.toList.drop (off + cs.length))).toArray)) :
    if Region.wanted o (yielded ops a.tmps) = true then Oper.wp P o a w K Q else E := by
  have hw : Region.wanted o (yielded ops a.tmps) = true := by simp [Region.wanted, hgd]
  rw [if_pos hw]
  have hrun := run_copy_row (P := P) w dT sT o.type elem g off dLen dCap ad sLen sCap cur t cs hu hsz hg hn hsrc hfit h1
  unfold Oper.wp
  simp [execOp, ho, resolve, invoke, builtin, hd, hs, hrun, Result.andThen]
  exact h
theorem grow_setRow (w : World) (g : Nat) (cs : Array Value) : w.grownBy (w.setRow g cs) (some g) :=
  ⟨rfl, rfl, rfl, by simp [World.setRow], fun k hk hne => setRow_other w g k cs (by intro e; subst e; exact hne rfl)⟩
/-- A list with a stretch put in at off. -/
def put (cs : List Int) (off : Nat) (xs : List Int) : List Int := cs.take off ++ (xs ++ cs.drop (off + xs.length))
theorem put_len (cs : List Int) (off : Nat) (xs : List Int) (h : off + xs.length ≤ cs.length) : (put cs off xs).length = cs.length := by simp [put]; omega
theorem put_lo (cs : List Int) (off : Nat) (xs : List Int) (h : off + xs.length ≤ cs.length) {q : Nat} (hq : q < off) : (put cs off xs).getD q 0 = cs.getD q 0 := by
  unfold put
  rw [List.getD_eq_getElem?_getD, List.getElem?_append_left (by simp; omega), List.getElem?_take, if_pos hq, List.getD_eq_getElem?_getD]
theorem put_mid (cs : List Int) (off : Nat) (xs : List Int) (h : off + xs.length ≤ cs.length) {k : Nat} (hk : k < xs.length) : (put cs off xs).getD (off + k) 0 = xs.getD k 0 := by
  unfold put
  have hl : (cs.take off).length = off := by simp; omega
  rw [List.getD_eq_getElem?_getD, List.getElem?_append_right (by omega), hl, Nat.add_sub_cancel_left, List.getElem?_append_left hk, List.getD_eq_getElem?_getD]
theorem put_map (cs : List Int) (off : Nat) (xs : List Int) : ((cs.map (Value.int .i64)).toArray.toList.take off ++ (xs.map (Value.int .i64) ++ (cs.map (Value.int .i64)).toArray.toList.drop (off + (xs.map (Value.int .i64)).length))).toArray = ((put cs off xs).map (Value.int .i64)).toArray := by
  simp [put, List.map_take, List.map_drop]
theorem mulL_row (n : Nat) (zs ys : List Int) {i k : Nat} (hi : i < n) (hk : k < n) : (mulL n zs ys).getD (i * n + k) 0 = dot (fun l => zs.getD (i * n + l) 0) (fun l => ys.getD (l * n + k) 0) n := by
  unfold mulL
  rw [ofF_getD _ (at_lt hi hk)]
  show dot (fun l => zs.getD ((i * n + k) / n * n + l) 0) (fun l => ys.getD (l * n + (i * n + k) % n) 0) n = _
  rw [at_div hk, at_mod hk]

theorem times_any (n p g h : Nat) (zs ys : List Int) (w : World) (n1 : 1 ≤ n) (n2 : n ≤ 4) (hp : Hid (p = n * n)) (hz : Hid (zs.length = p)) (hy : Hid (ys.length = p)) (p1 : p ≤ 16)
    (hzb : Hid (∀ q, q < p → 0 ≤ zs.getD q 0 ∧ zs.getD q 0 ≤ 1000000)) (hyb : Hid (∀ q, q < p → 0 ≤ ys.getD q 0 ∧ ys.getD q 0 ≤ 1000000)) (hq : Sq w g zs) (hr : Sq w h ys) :
    Calls Tryz.prog 28 #[sqV n (.slice (some ⟨g, 0, none⟩) p p), sqV n (.slice (some ⟨h, 0, none⟩) p p)] w fun e w' => ∃ g', e = .returned (sqV n (.slice (some ⟨g', 0, none⟩) p p)) ∧ Below w.heap.size w w' ∧ w.heap.size ≤ g' ∧ Sq w' g' (mulL n zs ys) := by
  unfold sqV
  go_enter Tryz.func28, Tryz.ntmps28
  go_wp2_with fail
  refine (newSquare_any n p _ n1 n2 hp.out).mono ?_
  rintro e w1 ⟨g', rfl, hb1, hg1, hsq⟩
  unfold sqV
  have sA : Blk w1 w.heap.size 61 (sqC n (.slice (some ⟨g, 0, none⟩) p p)) := (((Blk.new w _ _).alloc _).alloc _).below hb1 (by simp; omega)
  have tA : Blk w1 (w.heap.size + 1) 61 (sqC n (.slice (some ⟨h, 0, none⟩) p p)) := ((blk_new (by simp)).alloc _).below hb1 (by simp)
  have rA : Blk w1 (w.heap.size + 1 + 1) 61 #[.nilFunc, .int .i64 0, .nilFunc, .int .i64 0, .int .i64 0, .slice none 0 0] := (blk_new (by simp)).below hb1 (by simp)
  have hgr : w.heap.size + 1 + 1 < g' := by simp at hg1; omega
  have hb0 := below_on (below_a3 w _ _ _) hb1
  have hgw := Blk.lt hq
  have hhw := Blk.lt hr
  have qA := hq.below hb0
  have uA := hr.below hb0
  have hc4 : ∀ o, (w1.alloc o).cell? ⟨w.heap.size, 4, none⟩ = some (.int .i64 n) := fun o => (sA.alloc o).cell 4
  clear hb1 hg1
  go_wp2_with fail
  obtain ⟨w2, hw2⟩ : ∃ w2, w2 = w1.alloc (.cells (sqC n (.slice (some ⟨g', 0, none⟩) p p)) 61) := ⟨_, rfl⟩
  have v2 : Blk w2 w1.heap.size 61 (sqC n (.slice (some ⟨g', 0, none⟩) p p)) := by rw [hw2]; exact Blk.new _ _ _
  have r2 : Blk w2 (w.heap.size + 1 + 1) 61 #[.nilFunc, .int .i64 0, .nilFunc, .int .i64 0, .int .i64 0, .slice none 0 0] := by rw [hw2]; exact rA.alloc _
  have s2 : Blk w2 w.heap.size 61 (sqC n (.slice (some ⟨g, 0, none⟩) p p)) := by rw [hw2]; exact sA.alloc _
  have t2 : Blk w2 (w.heap.size + 1) 61 (sqC n (.slice (some ⟨h, 0, none⟩) p p)) := by rw [hw2]; exact tA.alloc _
  have q2 : Sq w2 g' (List.replicate p 0) := by rw [hw2]; exact Blk.alloc hsq _
  have z2 : Sq w2 g zs := by rw [hw2]; exact Blk.alloc qA _
  have y2 : Sq w2 h ys := by rw [hw2]; exact Blk.alloc uA _
  have b2 : Below w.heap.size w w2 := by rw [hw2]; exact hb0.alloc hb0.size _
  have hgs : ¬ w1.heap.size = g' := by have := Blk.lt hsq; omega
  unfold sqC at hw2
  rw [← hw2]
  obtain ⟨S, hS⟩ : ∃ S, S = w1.heap.size := ⟨_, rfl⟩
  rw [← hS] at v2 hgs
  rw [← hS]
  have V2 := Lib.hid v2
  have R2 := Lib.hid r2
  have S2 := Lib.hid s2
  have T2 := Lib.hid t2
  have Q2 := Lib.hid q2
  have Z2 := Lib.hid z2
  have Y2 := Lib.hid y2
  have B2 := Lib.hid b2
  have hw1 := b2.size
  have HL : Hid ((mulL n zs ys).length = p) := by show _ = _; unfold mulL; rw [ofF_len, hp.out]
  clear hw2 hS v2 r2 s2 t2 q2 z2 y2 b2 sA tA rA hsq hb0 qA uA hq hr hc4
  go_loopg [14] n (fun gh i wr => ∃ (r : Nat) (cs : List Int), r ≤ n ∧ gh = n - r ∧ i = .int .i64 r ∧ Hid (cs.length = p) ∧ Hid (∀ q, q < r * n → cs.getD q 0 = (mulL n zs ys).getD q 0) ∧ Hid (Sq wr g' cs) ∧ Hid (w2.grownBy wr (some g')))
  case atStart => exact ⟨0, List.replicate p 0, Nat.zero_le _, rfl, rfl, List.length_replicate, (fun q hq => by rw [Nat.zero_mul] at hq; omega), Q2, World.grownBy.refl _ _⟩
  case round =>
    obtain ⟨r, cs, hr, rfl, rfl, hcl, hpre, hsq, hg2⟩ := hrel
    by_cases hlt : r < n
    · obtain ⟨P, hP⟩ : ∃ P, P = r * n := ⟨_, rfl⟩
      have hPn : P + n ≤ p := by
        have : (r + 1) * n ≤ n * n := Nat.mul_le_mul_right n hlt
        rw [Nat.succ_mul] at this
        rw [hP, hp.out]; exact this
      have HP := Lib.hid hP
      have keep : ∀ w', w2.grownBy w' (some g') → w'.heap[g']? = wr.heap[g']? → (Hid (w2.grownBy w' (some g') ∧ w'.heap[g']? = wr.heap[g']?) ∧ w'.cell? ⟨S, 0, none⟩ = some (.func (.func 65) #[] #[]) ∧ w'.cell? ⟨S, 1, none⟩ = some (.int .i64 0) ∧ w'.cell? ⟨S, 2, none⟩ = some (.func (.func 66) #[] #[]) ∧ w'.cell? ⟨S, 3, none⟩ = some (.int .i64 1000000) ∧ w'.cell? ⟨S, 4, none⟩ = some (.int .i64 n) ∧ w'.cell? ⟨S, 5, none⟩ = some (.slice (some ⟨g', 0, none⟩) p p) ∧ w'.cell? ⟨w.heap.size, 0, none⟩ = some (.func (.func 65) #[] #[]) ∧ w'.cell? ⟨w.heap.size, 1, none⟩ = some (.int .i64 0) ∧ w'.cell? ⟨w.heap.size, 2, none⟩ = some (.func (.func 66) #[] #[]) ∧ w'.cell? ⟨w.heap.size, 3, none⟩ = some (.int .i64 1000000) ∧ w'.cell? ⟨w.heap.size, 4, none⟩ = some (.int .i64 n) ∧ w'.cell? ⟨w.heap.size, 5, none⟩ = some (.slice (some ⟨g, 0, none⟩) p p) ∧ w'.cell? ⟨(w.heap.size + 1), 0, none⟩ = some (.func (.func 65) #[] #[]) ∧ w'.cell? ⟨(w.heap.size + 1), 1, none⟩ = some (.int .i64 0) ∧ w'.cell? ⟨(w.heap.size + 1), 2, none⟩ = some (.func (.func 66) #[] #[]) ∧ w'.cell? ⟨(w.heap.size + 1), 3, none⟩ = some (.int .i64 1000000) ∧ w'.cell? ⟨(w.heap.size + 1), 4, none⟩ = some (.int .i64 n) ∧ w'.cell? ⟨(w.heap.size + 1), 5, none⟩ = some (.slice (some ⟨h, 0, none⟩) p p)) := fun w' h' hR' =>
        ⟨⟨h', hR'⟩, six_cells (show Blk w' S 61 #[_, _, _, _, _, _] from V2.out.grown h' hgs) |>.1, (six_cells (show Blk w' S 61 #[_, _, _, _, _, _] from V2.out.grown h' hgs)).2.1, (six_cells (show Blk w' S 61 #[_, _, _, _, _, _] from V2.out.grown h' hgs)).2.2.1, (six_cells (show Blk w' S 61 #[_, _, _, _, _, _] from V2.out.grown h' hgs)).2.2.2.1, (six_cells (show Blk w' S 61 #[_, _, _, _, _, _] from V2.out.grown h' hgs)).2.2.2.2.1, (six_cells (show Blk w' S 61 #[_, _, _, _, _, _] from V2.out.grown h' hgs)).2.2.2.2.2,
          (six_cells (show Blk w' w.heap.size 61 #[_, _, _, _, _, _] from S2.out.grown h' (by omega))).1, (six_cells (show Blk w' w.heap.size 61 #[_, _, _, _, _, _] from S2.out.grown h' (by omega))).2.1, (six_cells (show Blk w' w.heap.size 61 #[_, _, _, _, _, _] from S2.out.grown h' (by omega))).2.2.1, (six_cells (show Blk w' w.heap.size 61 #[_, _, _, _, _, _] from S2.out.grown h' (by omega))).2.2.2.1, (six_cells (show Blk w' w.heap.size 61 #[_, _, _, _, _, _] from S2.out.grown h' (by omega))).2.2.2.2.1, (six_cells (show Blk w' w.heap.size 61 #[_, _, _, _, _, _] from S2.out.grown h' (by omega))).2.2.2.2.2,
          six_cells (show Blk w' (w.heap.size + 1) 61 #[_, _, _, _, _, _] from T2.out.grown h' (by omega))⟩
      have K := Lib.hid keep
      have hRw : g' < wr.heap.size := Blk.lt hsq.out
      have KB : Hid (∀ w', w2.grownBy w' (some g') ∧ w'.heap[g']? = wr.heap[g']? → ∀ w'', Below w'.heap.size w' w'' → g' < w'.heap.size → (Hid (w2.grownBy w'' (some g') ∧ w''.heap[g']? = wr.heap[g']?) ∧ w''.cell? ⟨S, 0, none⟩ = some (.func (.func 65) #[] #[]) ∧ w''.cell? ⟨S, 1, none⟩ = some (.int .i64 0) ∧ w''.cell? ⟨S, 2, none⟩ = some (.func (.func 66) #[] #[]) ∧ w''.cell? ⟨S, 3, none⟩ = some (.int .i64 1000000) ∧ w''.cell? ⟨S, 4, none⟩ = some (.int .i64 n) ∧ w''.cell? ⟨S, 5, none⟩ = some (.slice (some ⟨g', 0, none⟩) p p) ∧ w''.cell? ⟨w.heap.size, 0, none⟩ = some (.func (.func 65) #[] #[]) ∧ w''.cell? ⟨w.heap.size, 1, none⟩ = some (.int .i64 0) ∧ w''.cell? ⟨w.heap.size, 2, none⟩ = some (.func (.func 66) #[] #[]) ∧ w''.cell? ⟨w.heap.size, 3, none⟩ = some (.int .i64 1000000) ∧ w''.cell? ⟨w.heap.size, 4, none⟩ = some (.int .i64 n) ∧ w''.cell? ⟨w.heap.size, 5, none⟩ = some (.slice (some ⟨g, 0, none⟩) p p) ∧ w''.cell? ⟨(w.heap.size + 1), 0, none⟩ = some (.func (.func 65) #[] #[]) ∧ w''.cell? ⟨(w.heap.size + 1), 1, none⟩ = some (.int .i64 0) ∧ w''.cell? ⟨(w.heap.size + 1), 2, none⟩ = some (.func (.func 66) #[] #[]) ∧ w''.cell? ⟨(w.heap.size + 1), 3, none⟩ = some (.int .i64 1000000) ∧ w''.cell? ⟨(w.heap.size + 1), 4, none⟩ = some (.int .i64 n) ∧ w''.cell? ⟨(w.heap.size + 1), 5, none⟩ = some (.slice (some ⟨h, 0, none⟩) p p))) := fun w' h' w'' hb hRs => keep _ (grow_trans h'.1 (grow_below_any hb (some g'))) ((hb.block g' hRs).trans h'.2)
      have hS0 := K.out wr.drew (grow_trans hg2.out (grow_drew _ _)) rfl
      have hb4 := (six_cells (show Blk wr w.heap.size 61 #[_, _, _, _, _, _] from S2.out.grown hg2.out (by omega))).2.2.2.2.1
      have HFb : Hid (∀ l, l < n → 0 ≤ (fun l => zs.getD (P + l) 0) l ∧ (fun l => zs.getD (P + l) 0) l ≤ 1000000) := fun l hl => hzb.out (P + l) (by omega)
      clear keep hP
      go_wp2_with fail
      refine wp_region_Z (S := fun w' => (Hid (w2.grownBy w' (some g') ∧ w'.heap[g']? = wr.heap[g']?) ∧ w'.cell? ⟨S, 0, none⟩ = some (.func (.func 65) #[] #[]) ∧ w'.cell? ⟨S, 1, none⟩ = some (.int .i64 0) ∧ w'.cell? ⟨S, 2, none⟩ = some (.func (.func 66) #[] #[]) ∧ w'.cell? ⟨S, 3, none⟩ = some (.int .i64 1000000) ∧ w'.cell? ⟨S, 4, none⟩ = some (.int .i64 n) ∧ w'.cell? ⟨S, 5, none⟩ = some (.slice (some ⟨g', 0, none⟩) p p) ∧ w'.cell? ⟨w.heap.size, 0, none⟩ = some (.func (.func 65) #[] #[]) ∧ w'.cell? ⟨w.heap.size, 1, none⟩ = some (.int .i64 0) ∧ w'.cell? ⟨w.heap.size, 2, none⟩ = some (.func (.func 66) #[] #[]) ∧ w'.cell? ⟨w.heap.size, 3, none⟩ = some (.int .i64 1000000) ∧ w'.cell? ⟨w.heap.size, 4, none⟩ = some (.int .i64 n) ∧ w'.cell? ⟨w.heap.size, 5, none⟩ = some (.slice (some ⟨g, 0, none⟩) p p) ∧ w'.cell? ⟨(w.heap.size + 1), 0, none⟩ = some (.func (.func 65) #[] #[]) ∧ w'.cell? ⟨(w.heap.size + 1), 1, none⟩ = some (.int .i64 0) ∧ w'.cell? ⟨(w.heap.size + 1), 2, none⟩ = some (.func (.func 66) #[] #[]) ∧ w'.cell? ⟨(w.heap.size + 1), 3, none⟩ = some (.int .i64 1000000) ∧ w'.cell? ⟨(w.heap.size + 1), 4, none⟩ = some (.int .i64 n) ∧ w'.cell? ⟨(w.heap.size + 1), 5, none⟩ = some (.slice (some ⟨h, 0, none⟩) p p))) (by kernel_rfl) hS0 (fun hS => ?_)
      clear hS0 hb4
      refine wpAnyZ_take (i := 0) (v := ?vb0) rfl (by kernel_rfl) (by kernel_rfl) (by kernel_rfl) (by kernel_rfl) (fun _ _ _ h => h) (Or.inl ⟨by rfl, ?yb0⟩) (by with_reducible assumption) ?rb0
      case yb0 => (intro w hSw; (try dsimp only at hSw); go_simp; (try with_reducible rfl))
      simp only [Act.put, List.setIfInBounds_toArray]
      refine wpAnyZ_take (i := 1) (v := ?vb1) rfl (by kernel_rfl) (by kernel_rfl) (by kernel_rfl) (by kernel_rfl) (fun _ _ _ h => h) (Or.inl ⟨by rfl, ?yb1⟩) (by with_reducible assumption) ?rb1
      case yb1 => (intro w hSw; (try dsimp only at hSw); go_simp; (try with_reducible rfl))
      simp only [Act.put]
      refine wpAnyZ_take (i := 3) (v := ?vb3) rfl (by kernel_rfl) (by kernel_rfl) (by kernel_rfl) (by kernel_rfl) (fun _ _ _ h => h) (Or.inl ⟨by rfl, ?yb3⟩) (by with_reducible assumption) ?rb3
      case yb3 => (intro w hSw; (try dsimp only at hSw); go_simp; (try with_reducible rfl))
      simp only [Act.put]
      refine wpAnyZ_take (i := 4) (v := ?vb4) rfl (by kernel_rfl) (by kernel_rfl) (by kernel_rfl) (by kernel_rfl) (fun _ _ _ h => h) (Or.inl ⟨by rfl, ?yb4⟩) (by with_reducible assumption) ?rb4
      case yb4 => (intro w hSw; (try dsimp only at hSw); go_simp; (try with_reducible rfl))
      simp only [Act.put]
      refine wpAnyZ_take (i := 5) (v := ?vb5) rfl (by kernel_rfl) (by kernel_rfl) (by kernel_rfl) (by kernel_rfl) (fun _ _ _ h => h) (Or.inl ⟨by rfl, ?yb5⟩) (by with_reducible assumption) ?rb5
      case yb5 => (intro w hSw; (try dsimp only at hSw); go_simp; (try with_reducible rfl))
      simp only [Act.put]
      refine wpAnyZ_step (i := 2) (by kernel_rfl) rfl ?_
      intro K1 hK1
      go_simp
      refine (row_is g' n p r P n1 n2 hlt HP.out hPn _).mono ?_
      rintro e w3 ⟨rfl, hb3⟩
      have hS3 := KB.out _ hS.1.out _ hb3 hRw
      have hR3 : g' < w3.heap.size := Nat.lt_of_lt_of_le hRw hb3.size
      refine hK1.out _ _ hS3 (fun hS1 => ?_)
      clear hK1 hS hS3 hb3
      (try simp only [Act.put])
      refine wpAnyZ_step (i := 6) (by kernel_rfl) rfl ?_
      intro K2 hK2
      go_simp
      refine (row_is g n p r P n1 n2 hlt HP.out hPn _).mono ?_
      rintro e w4 ⟨rfl, hb4⟩
      have hS4 := KB.out _ hS1.1.out _ hb4 hR3
      have hR4 : g' < w4.heap.size := Nat.lt_of_lt_of_le hR3 hb4.size
      refine hK2.out _ _ hS4 (fun hS2 => ?_)
      clear hK2 hS1 hS4 hb4
      (try simp only [Act.put])
      refine wpAnyZ_step (i := 7) (by kernel_rfl) rfl ?_
      intro K3 hK3
      go_simp
      have hzr := Blk.grown Z2.out hS2.1.out.1 (by omega)
      refine (behind_any n p h g P n (fun l => zs.getD (P + l) 0) ys _ n1 n2 hp hy p1 (Blk.grown Y2.out hS2.1.out.1 (by omega)) HFb hyb (Blk.lt hzr) (fun l hl => Nm.at_ hzr (by have := hz.out; omega))).mono ?_
      rintro e w5 ⟨g2, rfl, hb5, hg5, hq5⟩
      have hS5 := KB.out _ hS2.1.out _ hb5 hR4
      refine hK3.out _ _ hS5 (fun hS3 => ?_)
      clear hK3 hS2 hS5 hzr
      (try simp only [Act.put])
      obtain ⟨bl, hbl⟩ : ∃ bl, bl = behindL n (fun l => zs.getD (P + l) 0) ys := ⟨_, rfl⟩
      rw [← hbl] at hq5
      have hbn : bl.length = n := by rw [hbl]; exact behindL_len _ _ _
      have hsq5 : Sq w5 g' cs := hS3.1.out.2.trans hsq.out
      have hfit : P + bl.length ≤ cs.length := by have := hcl.out; omega
      have D1 : Hid (∀ q, q < (r + 1) * n → (put cs P bl).getD q 0 = (mulL n zs ys).getD q 0) := fun q hq => by
        rw [Nat.succ_mul, ← HP.out] at hq
        by_cases h1 : q < P
        · rw [put_lo cs P bl hfit h1]
          exact hpre.out q (by rw [← HP.out]; exact h1)
        · obtain ⟨k, rfl⟩ : ∃ k, q = P + k := ⟨q - P, by omega⟩
          have hk : k < n := by omega
          have hm := mulL_row n zs ys hlt hk
          rw [← HP.out] at hm
          rw [put_mid cs P bl hfit (by omega), hm, hbl, behindL_at _ _ hk]
      have DL : Hid ((put cs P bl).length = p) := by show _ = _; rw [put_len cs P bl hfit]; exact hcl.out
      have G5 := hS3.1.out.1
      refine wpAnyZ_last (i := 8) (by kernel_rfl) rfl (by kernel_rfl) ?_
      intro K4 hK4
      refine step_copy_into rfl _ _ _ _ rfl 56 Tryz.underlying59 (by kernel_rfl) g' P n n ⟨g2, 0, none⟩ n n rfl rfl _ _ hsq5 (bl.map (Value.int .i64)) (by rw [List.length_map, hbn]; exact (Nat.min_self n).symm) ?_ (by simp; omega) (by intro v hv; simp at hv; obtain ⟨x, _, rfl⟩ := hv; rfl) ?_
      · intro j v hj
        rw [List.getElem?_map] at hj
        have hjn : j < bl.length := by
          rcases Nat.lt_or_ge j bl.length with h' | h'
          · exact h'
          · rw [List.getElem?_eq_none h'] at hj; cases hj
        rw [List.getElem?_eq_getElem hjn] at hj
        cases hj
        have hcj := hq5.at_ hjn
        rw [List.getD_eq_getElem?_getD, List.getElem?_eq_getElem hjn] at hcj
        have e : (⟨g2, 0, none⟩ : Addr).add j = ⟨g2, j, none⟩ := by by_cases h0 : j = 0 <;> simp [Addr.add, h0]
        rw [e]
        simpa using hcj
      rw [put_map]
      have Q6 : Hid (Sq (w5.setRow g' ((put cs P bl).map (Value.int .i64)).toArray) g' (put cs P bl)) := setRow_heap w5 g' _ _ _ _ hsq5
      have G6 := Lib.hid (grow_trans G5 (grow_setRow w5 g' ((put cs P bl).map (Value.int .i64)).toArray))
      refine hK4.out _ _ ?_
      clear hK4 hS3 hq5 hb5 hsq5 hbl G5
      go_wp2_with fail
      go_roundg (n - (r + 1))
      case rel => exact ⟨r + 1, put cs P bl, by omega, rfl, by go_num, DL, D1, Q6, G6⟩
      case measure => omega
    · obtain rfl : n = r := by omega
      have hrr := R2.out.grown hg2.out (by omega)
      have hvr := V2.out.grown hg2.out hgs
      obtain ⟨a0, a1, a2, a3, a4, a5⟩ := six_cells (show Blk wr S 61 #[_, _, _, _, _, _] from hvr)
      obtain ⟨d0, d1, d2, d3, d4, d5⟩ := six_cells hrr
      obtain ⟨f0, f1, f2, f3, f4, f5⟩ := six_frozen hrr
      have HRR := Lib.hid hrr
      have HZS : Hid (cs = mulL n zs ys) := eq_of_getD (by rw [hcl.out, HL.out]) (fun q hq => hpre.out q (by rw [← hp.out, ← hcl.out]; exact hq))
      clear hrr hvr
      go_wp2_with fail
      refine bodyPost_ret (results_1 rfl (Gives.row (g := w.heap.size + 1 + 1) rfl (blk_six HRR.out) Tryz.underlying61 rfl (by kernel_rfl))) rfl ?_
      refine ⟨g', rfl, ?_, by omega, ?_⟩
      · exact (B2.out.grown hg2.out B2.out.size (fun j hj => by cases hj; omega)).grown (grow_six _ _ _ _ _ _ _ _) (by have := hg2.out.size; have := B2.out.size; omega) (fun j hj => by cases hj; omega)
      · rw [← HZS.out]
        exact Blk.grown hsq.out (grow_six _ _ _ _ _ _ _ _) (by omega)
end Go.Proofs.YtjhaegkefagngaaGreatDoor
