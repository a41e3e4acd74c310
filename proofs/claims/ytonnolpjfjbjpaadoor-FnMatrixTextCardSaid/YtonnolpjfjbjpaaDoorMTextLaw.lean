/- The walk of the law of the texts of matrices: it returns true for all inputs, and nothing that was there changes. Conditions: the library's table of powers of ten reads as its text lays it; no row is longer than a machine has room for. -/
import Derived.Test.YtonnolpjfjbjpaaDoorDaAny
import Derived.Test.YtonnolpjfjbjpaaDoorDrawSame
import Derived.Test.YtonnolpjfjbjpaaDoorDrawT
import Derived.Test.YtonnolpjfjbjpaaDoorParseM
import Derived.Test.YtonnolpjfjbjpaaDoorFmtM
import Derived.OpenShut
import Derived.Deep.DeepCutAuto
import Derived.Deep.CutRange
namespace Go.Proofs.YtonnolpjfjbjpaaDoor
open Go.RowKit
set_option maxHeartbeats 8000000
set_option maxRecDepth 100000
set_option linter.unusedVariables false

theorem parse_nil : parseM [] = none := by rfl
theorem parse_back {m : Int} {zs : List Int} {ok : Bool} (h : matOk m zs = ok) : (parseM (matF m zs)).isSome = ok ∧ (ok = true → ((parseM (matF m zs)).getD (0, [])).1 = m ∧ ((parseM (matF m zs)).getD (0, [])).2 = zs) := by
  cases ok
  · rw [matF_no h, parse_nil]; exact ⟨rfl, fun h => by cases h⟩
  · rw [parse_mat h]; exact ⟨rfl, fun _ => ⟨rfl, rfl⟩⟩
theorem turn_is {m : Int} {zs : List Int} {ok : Bool} (h : matOk m zs = ok) : (turnR m zs).isSome = ok := by unfold turnR; rw [h]; cases ok <;> rfl
theorem turn_back {m : Int} {zs : List Int} (h : matOk m zs = true) : turnR ((turnR m zs).getD (0, [])).1 ((turnR m zs).getD (0, [])).2 = some (m, zs) := by
  obtain ⟨n, rfl, mv⟩ := matOk_t h
  have e : turnR (n : Int) zs = some ((n : Int), turnL n zs) := by unfold turnR; rw [if_pos h, Int.toNat_natCast]
  rw [e]
  show turnR (n : Int) (turnL n zs) = _
  unfold turnR
  rw [if_pos (matOk_mk (turnL_ok mv)), Int.toNat_natCast, turnL_twice mv.len]
theorem iFmtM_t (m k : Int) (A : Option Addr) (cap : Nat) (zs : List Int) (t : ByteArray) (w : World) (hk : k = m) (hz : OwnI w A cap zs) (hl : zs.length ≤ 1048577) (ht : t.data.toList = matF m zs) (h10 : Tab10 w) (hB : 3 < w.heap.size) :
    Calls Tryd.prog 5 #[.agg #[.int .i64 k, .slice A zs.length cap]] w fun e w' => e = .returned (.string t) ∧ Hid (Below w.heap.size w w') := by
  subst hk
  obtain ⟨_, _, he, hc, hi⟩ := own_ints hz (by unfold maxLen; omega)
  cases he
  have e : t = ⟨(matF k zs).toArray⟩ := by apply Go.WideShapes.bytes_inj; rw [ht]
  rw [e]
  exact iFmtM_any k A cap zs w hi hc h10 hB
theorem sFmtM_t (m : Int) (A : Option Addr) (cap : Nat) (zs : List Int) (t : ByteArray) (w : World) (hz : OwnI w A cap zs) (hl : zs.length ≤ 1048577) (ht : t.data.toList = matF m zs) :
    Calls Tryd.prog 7 #[.agg #[.int .i64 m, .slice A zs.length cap]] w fun e w' => e = .returned (.string t) ∧ Hid (Below w.heap.size w w') := by
  obtain ⟨_, _, he, hc, hi⟩ := own_ints hz (by unfold maxLen; omega)
  cases he
  have e : t = ⟨(matF m zs).toArray⟩ := by apply Go.WideShapes.bytes_inj; rw [ht]
  rw [e]
  exact sFmtM_any m A cap zs w hi hc
theorem sValid_r (m : Int) (zs : List Int) (ok : Bool) (A : Option Addr) (cap : Nat) (w : World) (hz : OwnI w A cap zs) (hl : zs.length ≤ 1048577) (h1 : matOk m zs = ok) :
    Calls Tryd.prog 9 #[.agg #[.int .i64 m, .slice A zs.length cap]] w fun e w' => e = .returned (.bool ok) ∧ Hid (Below w.heap.size w w') :=
  (sMatrixValid_is m A cap zs ok w (hz.ints hl) h1).mono fun e w' h => h
theorem iParse_r (s : ByteArray) (w : World) (mr : Int) (rs : List Int) (ok : Bool) (hs : s.size ≤ 1048576) (hmax : MaxC w) (h1 : ((parseM s.data.toList).getD (0, [])).1 = mr) (h2 : ((parseM s.data.toList).getD (0, [])).2 = rs) (h3 : (parseM s.data.toList).isSome = ok) :
    Calls Tryd.prog 6 #[.string s] w fun e w' => REnd mr rs ok w e w' :=
  (iParseM_any s w hs hmax).mono fun e w' h => h.form h1 h2 h3
theorem sParse_r (s : ByteArray) (w : World) (mr : Int) (rs : List Int) (ok : Bool) (hs : s.size ≤ 1048576) (h1 : ((parseM s.data.toList).getD (0, [])).1 = mr) (h2 : ((parseM s.data.toList).getD (0, [])).2 = rs) (h3 : (parseM s.data.toList).isSome = ok) :
    Calls Tryd.prog 12 #[.string s] w fun e w' => REnd mr rs ok w e w' :=
  (sParseM_any s w hs).mono fun e w' h => h.form h1 h2 h3
theorem iSame_r (m m' : Int) (A A' : Option Addr) (cap cap' : Nat) (zs ys : List Int) (r : Bool) (w : World) (hz : OwnI w A cap zs) (hy : OwnI w A' cap' ys) (hl : zs.length ≤ 1048577) (hl' : ys.length ≤ 1048577) (hr : (decide (m = m') && decide (zs = ys)) = r) :
    Calls Tryd.prog 15 #[.agg #[.int .i64 m, .slice A zs.length cap], .agg #[.int .i64 m', .slice A' ys.length cap']] w fun e w' => e = .returned (.bool r) ∧ Hid (Below w.heap.size w w') :=
  (iSame_is m m' A A' cap cap' zs ys r w (hz.ints hl) (hy.ints hl') hr).mono fun e w' h => h
theorem daM_r (m m' : Int) (A A' : Option Addr) (cap cap' : Nat) (zs ys : List Int) (r : Bool) (w : World) (hz : OwnI w A cap zs) (hy : OwnI w A' cap' ys) (hl : zs.length ≤ 1048577) (hl' : ys.length ≤ 1048577) (hr : (decide (m = m') && decide (zs = ys)) = r) :
    Calls Tryd.prog 10 #[.agg #[.int .i64 m, .slice A zs.length cap], .agg #[.int .i64 m', .slice A' ys.length cap']] w fun e w' => e = .returned (.bool r) ∧ Hid (Below w.heap.size w w') :=
  (daM_any m m' A A' cap cap' zs ys r w (hz.ints hl) (hy.ints hl') hr).mono fun e w' h => h
theorem costs_few (zs : List Int) : (costsF zs).length ≤ 8 * zs.length := by
  unfold costsF
  split
  · exact costs_len zs
  · simp
theorem join_few : ∀ (L : List (List UInt8)) (c : UInt8) (K : Nat), (∀ y ∈ L, y.length ≤ K) → (Lib.join L [c]).length ≤ (K + 1) * L.length
  | [], c, K, h => by simp [Lib.join]
  | x :: r, c, K, h => by
    rw [Lib.join_cons]
    have ht : ∀ (r : List (List UInt8)), (∀ y ∈ r, y.length ≤ K) → (Lib.joinTail [c] r).length ≤ (K + 1) * r.length := by
      intro r
      induction r with
      | nil => intro _; simp [Lib.joinTail]
      | cons y r ih =>
        intro h
        rw [jt_cons]
        have h1 := ih (fun z hz => h z (List.mem_cons_of_mem _ hz))
        have h2 := h y List.mem_cons_self
        simp only [List.length_cons, List.length_append, Nat.mul_add]
        omega
    have h1 := ht r (fun z hz => h z (List.mem_cons_of_mem _ hz))
    have h2 := h x List.mem_cons_self
    simp only [List.length_append, List.length_cons, Nat.mul_add]
    omega
theorem matF_few (m : Int) (zs : List Int) (h : zs.length ≤ 18) : (matF m zs).length ≤ 1000 := by
  rcases Bool.eq_false_or_eq_true (matOk m zs) with hok | hok
  · obtain ⟨n, rfl, mv⟩ := matOk_t hok
    rw [matF_ok hok]
    have h1 := join_few (rowsF n zs n) 47 150 (by
      intro y hy
      unfold rowsF at hy
      obtain ⟨i, _, rfl⟩ := List.mem_map.mp hy
      have := costs_few (rowL n zs i)
      have h2 : (rowL n zs i).length ≤ zs.length := by unfold rowL; simp; omega
      omega)
    rw [rowsF_len] at h1
    have := mv.hi
    omega
  · rw [matF_no hok]; simp

theorem FnMatrixText_walk (A : Option Addr) (cap : Nat) (zs : List Int) (A' : Option Addr) (cap' : Nat) (ys : List Int) (w : World) (hz : IRow .u8 w w.heap.size A zs) (hc : zs.length ≤ cap) (hwf : ∀ z ∈ zs, (Lit.int .u8 z).wf = true) (hy : IRow .u8 w w.heap.size A' ys) (hc' : ys.length ≤ cap') (hwf' : ∀ z ∈ ys, (Lit.int .u8 z).wf = true) (ht : Tab10 w) (hB : 3 < w.heap.size) (hsh : w.ShapedOpen Tryd.prog) :
    Calls Tryd.prog 3 #[.slice A zs.length cap, .slice A' ys.length cap'] w fun e w' => e = .returned (.bool true) ∧ Below w.heap.size w w' := by
  have hl1 := hz.len
  have hl2 := hy.len
  have HZ := Lib.hid (show ∀ z ∈ zs, 0 ≤ z ∧ z ≤ 255 from fun z hz => bounds_u8 (hwf z hz))
  have HZ' := Lib.hid (show ∀ z ∈ ys, 0 ≤ z ∧ z ≤ 255 from fun z hz => bounds_u8 (hwf' z hz))
  have HY := Lib.hid hy
  have HC := Lib.hid hc'
  have HT := Lib.hid ht
  have HM := Lib.hid (maxC_of_shaped hsh)
  have HG := Lib.hid hB
  clear hwf hwf' hy hc' ht hsh hB
  by_cases hs1 : (1048576 : Int) < (zs.length : Int)
  · go_enter Tryd.func3, Tryd.ntmps3
    go_wp2_with fail
    go_ret
    exact ⟨rfl, Below.refl _ _⟩
  by_cases hs2 : (1048576 : Int) < (ys.length : Int)
  · go_enter Tryd.func3, Tryd.ntmps3
    go_wp2_with fail
    go_ret
    exact ⟨rfl, Below.refl _ _⟩
  go_enter Tryd.func3, Tryd.ntmps3
  go_wp2_with fail
  refine (drawFmtM_any _ _ _ _ hz hc HZ.out).mono ?_
  rintro e w1 ⟨A5, cap5, m, us, rfl, O5', hl5', B1⟩
  have O5 : Hid (OwnI w1 A5 cap5 us) := own_base O5'.out (Nat.zero_le _)
  have hl5 : us.length ≤ 1048577 := by omega
  have HFEW := Lib.hid (matF_few m us hl5')
  clear hz HZ O5' hl5'
  obtain ⟨ok, hok⟩ : ∃ ok, matOk m us = ok := ⟨_, rfl⟩
  have HOK := Lib.hid hok
  clear hok
  obtain ⟨t, hte⟩ : ∃ t : ByteArray, t.data.toList = matF m us := ⟨⟨(matF m us).toArray⟩, rfl⟩
  have HTE := Lib.hid hte
  clear hte
  have hts : t.size ≤ 1048576 := by
    have h1 : t.size = (matF m us).length := by rw [← HTE.out]; simp
    have := HFEW.out
    omega
  obtain ⟨mb, hmb⟩ : ∃ x, ((parseM t.data.toList).getD (0, [])).1 = x := ⟨_, rfl⟩
  obtain ⟨bs, hbs⟩ : ∃ x, ((parseM t.data.toList).getD (0, [])).2 = x := ⟨_, rfl⟩
  have HMB := Lib.hid hmb
  have HBS := Lib.hid hbs
  have HPO : Hid ((parseM t.data.toList).isSome = ok) := by show _ = _; rw [HTE.out]; exact (parse_back HOK.out).1
  have HPB : Hid (ok = true → mb = m ∧ us = bs) := fun h => by rw [← hmb, ← hbs, HTE.out]; exact ⟨((parse_back HOK.out).2 h).1, ((parse_back HOK.out).2 h).2.symm⟩
  clear hmb hbs
  have F5 := Lib.hid (VA.new rfl O5.out hl5 (m := m))
  have B1a := Lib.hid (below_al B1.out (Nat.le_refl _) (MO A5 cap5 m us))
  clear O5 B1
  obtain ⟨c50, c51⟩ := F5.out.cells
  have c52 := F5.out.lt
  go_wp2_with fail
  refine (iFmtM_t m _ _ _ _ t _ rfl F5.out.2.1 hl5 HTE.out (tab10_below HT.out B1a.out HG.out) (Nat.lt_of_lt_of_le HG.out B1a.out.size)).mono ?_
  rintro e w2 ⟨rfl, Hk⟩
  have G5 := Lib.hid (F5.out.below Hk.out)
  have B2 := Lib.hid (below_on B1a.out Hk.out)
  clear Hk F5 c50 c51 c52
  have F5 := G5
  clear G5
  go_wp2_with fail
  refine (iParse_r t _ mb bs ok hts (HM.out.below B2.out HM.out.lt) HMB.out HBS.out HPO.out).mono ?_
  rintro e w3 ⟨k7, A7, cap7, rfl, K7, O7, hl7, Hk⟩
  have G5 := Lib.hid (F5.out.below Hk.out)
  have B3 := Lib.hid (below_on B2.out Hk.out)
  clear Hk F5
  have F5 := G5
  clear G5
  have G5 := Lib.hid (F5.out.al (MO A7 cap7 k7 bs))
  have B3a := Lib.hid (below_al B3.out (Nat.le_refl _) (MO A7 cap7 k7 bs))
  clear F5
  have F5 := G5
  clear G5
  have F7 := Lib.hid (VA.new rfl O7.out hl7 (m := k7))
  clear O7
  go_upto_region 6 with fail
  go_cut [62] (fun c wx => c = .bool false ∧ Hid (VA wx w1.heap.size A5 cap5 m us) ∧ Hid (Below w.heap.size w wx))
  case first =>
    rcases Bool.eq_false_or_eq_true ok with hk | hk
    · subst hk
      obtain ⟨hm7, rfl⟩ := HPB.out (by trivial)
      have K7m := Lib.hid (K7.out.trans hm7)
      clear hm7
      refine wp_region_Z (S := fun w' => w'.cell? ⟨w1.heap.size, 0, none⟩ = some (.int .i64 m) ∧ w'.cell? ⟨w1.heap.size, 1, none⟩ = some (.slice A5 us.length cap5) ∧ w'.cell? ⟨w3.heap.size, 0, none⟩ = some (.int .i64 k7) ∧ w'.cell? ⟨w3.heap.size, 1, none⟩ = some (.slice A7 us.length cap7)) (by kernel_rfl) ⟨F5.out.cells.1, F5.out.cells.2, F7.out.cells.1, F7.out.cells.2⟩ (fun hS => ?_)
      have G5 : Hid (VA (w3.alloc (MO A7 cap7 k7 us)).drew w1.heap.size A5 cap5 m us) := Lib.hid (F5.out.below (below_dr (Below.refl _ _) 1))
      have G7 : Hid (VA (w3.alloc (MO A7 cap7 k7 us)).drew w3.heap.size A7 cap7 k7 us) := Lib.hid (F7.out.below (below_dr (Below.refl _ _) 1))
      have B3d : Hid (Below w.heap.size w (w3.alloc (MO A7 cap7 k7 us)).drew) := Lib.hid (below_dr B3a.out 1)
      clear F5 F7
      have F5 := G5
      have F7 := G7
      clear G5 G7
      refine wpAnyZ_take (i := 0) (v := ?va10) rfl (by kernel_rfl) (by kernel_rfl) (by kernel_rfl) (by kernel_rfl) (fun _ _ _ h => h) (Or.inl ⟨by kernel_rfl, ?ya10⟩) (by with_reducible assumption) ?ra10
      case ya10 => (intro w hSw; (try dsimp only at hSw); go_simp; (try with_reducible rfl))
      simp only [Act.put, List.setIfInBounds_toArray]
      refine wpAnyZ_take (i := 1) (v := ?va11) rfl (by kernel_rfl) (by kernel_rfl) (by kernel_rfl) (by kernel_rfl) (fun _ _ _ h => h) (Or.inl ⟨by kernel_rfl, ?ya11⟩) (by with_reducible assumption) ?ra11
      case ya11 => (intro w hSw; (try dsimp only at hSw); go_simp; (try with_reducible rfl))
      simp only [Act.put]
      refine wpAnyZ_step (i := 2) (by kernel_rfl) rfl ?_
      intro K2 hK2
      go_simp
      refine (sFmtM_t m _ _ _ t _ F5.out.2.1 hl5 HTE.out).mono ?_
      rintro e w4 ⟨rfl, Hk⟩
      have G5 := Lib.hid (F5.out.below Hk.out)
      have G7 := Lib.hid (F7.out.below Hk.out)
      have B4 := Lib.hid (below_on B3d.out Hk.out)
      clear Hk F5 F7
      have F5 := G5
      have F7 := G7
      clear G5 G7
      refine hK2.out _ _ ⟨F5.out.cells.1, F5.out.cells.2, F7.out.cells.1, F7.out.cells.2⟩ (fun hS' => ?_)
      clear hK2 hS
      have hS := hS'
      clear hS'
      (try simp only [Act.put])
      refine wpAnyZ_take (i := 3) (v := .bool false) rfl (by kernel_rfl) (by kernel_rfl) (by kernel_rfl) (by kernel_rfl) (fun _ _ _ h => h) (Or.inl ⟨by kernel_rfl, ?ya13⟩) (by with_reducible assumption) ?ra13
      case ya13 => (intro w hSw; (try dsimp only at hSw); go_simp; (try with_reducible rfl); first | done | simp)
      simp only [Act.put]
      refine wpAnyZ_take (i := 4) (v := ?va14) rfl (by kernel_rfl) (by kernel_rfl) (by kernel_rfl) (by kernel_rfl) (fun _ _ _ h => h) (Or.inl ⟨by kernel_rfl, ?ya14⟩) (by with_reducible assumption) ?ra14
      case ya14 => (intro w hSw; (try dsimp only at hSw); go_simp; (try with_reducible rfl))
      simp only [Act.put]
      refine wpAnyZ_take (i := 5) (v := ?va15) rfl (by kernel_rfl) (by kernel_rfl) (by kernel_rfl) (by kernel_rfl) (fun _ _ _ h => h) (Or.inl ⟨by kernel_rfl, ?ya15⟩) (by with_reducible assumption) ?ra15
      case ya15 => (intro w hSw; (try dsimp only at hSw); go_simp; (try with_reducible rfl))
      simp only [Act.put]
      refine wpAnyZ_take (i := 7) (v := ?va17) rfl (by kernel_rfl) (by kernel_rfl) (by kernel_rfl) (by kernel_rfl) (fun _ _ _ h => h) (Or.inl ⟨by kernel_rfl, ?ya17⟩) (by with_reducible assumption) ?ra17
      case ya17 => (intro w hSw; (try dsimp only at hSw); go_simp; (try with_reducible rfl))
      simp only [Act.put]
      refine wpAnyZ_step (i := 6) (by kernel_rfl) rfl ?_
      intro K6 hK6
      go_simp
      refine (iValid_r m _ _ _ _ _ F5.out.2.1 hl5 HOK.out).mono ?_
      rintro e w5 ⟨rfl, Hk⟩
      have G5 := Lib.hid (F5.out.below Hk.out)
      have G7 := Lib.hid (F7.out.below Hk.out)
      have B5 := Lib.hid (below_on B4.out Hk.out)
      clear Hk F5 F7
      have F5 := G5
      have F7 := G7
      clear G5 G7
      refine hK6.out _ _ ⟨F5.out.cells.1, F5.out.cells.2, F7.out.cells.1, F7.out.cells.2⟩ (fun hS' => ?_)
      clear hK6 hS
      have hS := hS'
      clear hS'
      (try simp only [Act.put])
      refine wpAnyZ_step (i := 8) (by kernel_rfl) rfl ?_
      intro K8 hK8
      go_simp
      refine (sValid_r m _ _ _ _ _ F5.out.2.1 hl5 HOK.out).mono ?_
      rintro e w6 ⟨rfl, Hk⟩
      have G5 := Lib.hid (F5.out.below Hk.out)
      have G7 := Lib.hid (F7.out.below Hk.out)
      have B6 := Lib.hid (below_on B5.out Hk.out)
      clear Hk F5 F7
      have F5 := G5
      have F7 := G7
      clear G5 G7
      refine hK8.out _ _ ⟨F5.out.cells.1, F5.out.cells.2, F7.out.cells.1, F7.out.cells.2⟩ (fun hS' => ?_)
      clear hK8 hS
      have hS := hS'
      clear hS'
      (try simp only [Act.put])
      refine wpAnyZ_take (i := 9) (v := .bool false) rfl (by kernel_rfl) (by kernel_rfl) (by kernel_rfl) (by kernel_rfl) (fun _ _ _ h => h) (Or.inl ⟨by kernel_rfl, ?ya19⟩) (by with_reducible assumption) ?ra19
      case ya19 => (intro w hSw; (try dsimp only at hSw); go_simp; (try with_reducible rfl); first | done | simp)
      simp only [Act.put]
      refine wpAnyZ_take (i := 10) (v := ?va110) rfl (by kernel_rfl) (by kernel_rfl) (by kernel_rfl) (by kernel_rfl) (fun _ _ _ h => h) (Or.inl ⟨by kernel_rfl, ?ya110⟩) (by with_reducible assumption) ?ra110
      case ya110 => (intro w hSw; (try dsimp only at hSw); go_simp; (try with_reducible rfl))
      simp only [Act.put]
      refine wpAnyZ_take (i := 11) (v := ?va111) rfl (by kernel_rfl) (by kernel_rfl) (by kernel_rfl) (by kernel_rfl) (fun _ _ _ h => h) (Or.inl ⟨by kernel_rfl, ?ya111⟩) (by with_reducible assumption) ?ra111
      case ya111 => (intro w hSw; (try dsimp only at hSw); go_simp; (try with_reducible rfl))
      simp only [Act.put]
      refine wpAnyZ_take (i := 12) (v := ?va112) rfl (by kernel_rfl) (by kernel_rfl) (by kernel_rfl) (by kernel_rfl) (fun _ _ _ h => h) (Or.inl ⟨by kernel_rfl, ?ya112⟩) (by with_reducible assumption) ?ra112
      case ya112 => (intro w hSw; (try dsimp only at hSw); go_simp; (try with_reducible rfl))
      simp only [Act.put]
      refine wpAnyZ_take (i := 13) (v := ?va113) rfl (by kernel_rfl) (by kernel_rfl) (by kernel_rfl) (by kernel_rfl) (fun _ _ _ h => h) (Or.inl ⟨by kernel_rfl, ?ya113⟩) (by with_reducible assumption) ?ra113
      case ya113 => (intro w hSw; (try dsimp only at hSw); go_simp; (try with_reducible rfl))
      simp only [Act.put]
      refine wpAnyZ_step (i := 14) (by kernel_rfl) rfl ?_
      intro K14 hK14
      go_simp
      refine (iValid_r m _ _ _ _ _ F5.out.2.1 hl5 HOK.out).mono ?_
      rintro e w7 ⟨rfl, Hk⟩
      have G5 := Lib.hid (F5.out.below Hk.out)
      have G7 := Lib.hid (F7.out.below Hk.out)
      have B7 := Lib.hid (below_on B6.out Hk.out)
      clear Hk F5 F7
      have F5 := G5
      have F7 := G7
      clear G5 G7
      refine hK14.out _ _ ⟨F5.out.cells.1, F5.out.cells.2, F7.out.cells.1, F7.out.cells.2⟩ (fun hS' => ?_)
      clear hK14 hS
      have hS := hS'
      clear hS'
      (try simp only [Act.put])
      refine wpAnyZ_take (i := 15) (v := .bool false) rfl (by kernel_rfl) (by kernel_rfl) (by kernel_rfl) (by kernel_rfl) (fun _ _ _ h => h) (Or.inl ⟨by kernel_rfl, ?ya115⟩) (by with_reducible assumption) ?ra115
      case ya115 => (intro w hSw; (try dsimp only at hSw); go_simp; (try with_reducible rfl); first | done | simp)
      simp only [Act.put]
      refine wpAnyZ_take (i := 16) (v := ?va116) rfl (by kernel_rfl) (by kernel_rfl) (by kernel_rfl) (by kernel_rfl) (fun _ _ _ h => h) (Or.inl ⟨by kernel_rfl, ?ya116⟩) (by with_reducible assumption) ?ra116
      case ya116 => (intro w hSw; (try dsimp only at hSw); go_simp; (try with_reducible rfl))
      simp only [Act.put]
      refine wpAnyZ_take (i := 17) (v := ?va117) rfl (by kernel_rfl) (by kernel_rfl) (by kernel_rfl) (by kernel_rfl) (fun _ _ _ h => h) (Or.inl ⟨by kernel_rfl, ?ya117⟩) (by with_reducible assumption) ?ra117
      case ya117 => (intro w hSw; (try dsimp only at hSw); go_simp; (try with_reducible rfl))
      simp only [Act.put]
      refine wpAnyZ_take (i := 18) (v := ?va118) rfl (by kernel_rfl) (by kernel_rfl) (by kernel_rfl) (by kernel_rfl) (fun _ _ _ h => h) (Or.inl ⟨by kernel_rfl, ?ya118⟩) (by with_reducible assumption) ?ra118
      case ya118 => (intro w hSw; (try dsimp only at hSw); go_simp; (try with_reducible rfl))
      simp only [Act.put]
      refine wpAnyZ_take (i := 19) (v := ?va119) rfl (by kernel_rfl) (by kernel_rfl) (by kernel_rfl) (by kernel_rfl) (fun _ _ _ h => h) (Or.inl ⟨by kernel_rfl, ?ya119⟩) (by with_reducible assumption) ?ra119
      case ya119 => (intro w hSw; (try dsimp only at hSw); go_simp; (try with_reducible rfl))
      simp only [Act.put]
      refine wpAnyZ_take (i := 20) (v := ?va120) rfl (by kernel_rfl) (by kernel_rfl) (by kernel_rfl) (by kernel_rfl) (fun _ _ _ h => h) (Or.inl ⟨by kernel_rfl, ?ya120⟩) (by with_reducible assumption) ?ra120
      case ya120 => (intro w hSw; (try dsimp only at hSw); go_simp; (try with_reducible rfl))
      simp only [Act.put]
      refine wpAnyZ_take (i := 21) (v := ?va121) rfl (by kernel_rfl) (by kernel_rfl) (by kernel_rfl) (by kernel_rfl) (fun _ _ _ h => h) (Or.inl ⟨by kernel_rfl, ?ya121⟩) (by with_reducible assumption) ?ra121
      case ya121 => (intro w hSw; (try dsimp only at hSw); go_simp; (try with_reducible rfl))
      simp only [Act.put]
      refine wpAnyZ_step (i := 22) (by kernel_rfl) rfl ?_
      intro K22 hK22
      go_simp
      refine (da_r _ _ _ _ _ _ _ _ K7m.out F7.out.2.1 F5.out.2.1 hl5).mono ?_
      rintro e w8 ⟨rfl, Hk⟩
      have G5 := Lib.hid (F5.out.below Hk.out)
      have G7 := Lib.hid (F7.out.below Hk.out)
      have B8 := Lib.hid (below_on B7.out Hk.out)
      clear Hk F5 F7
      have F5 := G5
      have F7 := G7
      clear G5 G7
      refine hK22.out _ _ ⟨F5.out.cells.1, F5.out.cells.2, F7.out.cells.1, F7.out.cells.2⟩ (fun hS' => ?_)
      clear hK22 hS
      have hS := hS'
      clear hS'
      (try simp only [Act.put])
      refine wpAnyZ_take (i := 23) (v := ?va123) rfl (by kernel_rfl) (by kernel_rfl) (by kernel_rfl) (by kernel_rfl) (fun _ _ _ h => h) (Or.inl ⟨by kernel_rfl, ?ya123⟩) (by with_reducible assumption) ?ra123
      case ya123 => (intro w hSw; (try dsimp only at hSw); go_simp; (try with_reducible rfl))
      simp only [Act.put]
      refine wpAnyZ_take (i := 24) (v := ?va124) rfl (by kernel_rfl) (by kernel_rfl) (by kernel_rfl) (by kernel_rfl) (fun _ _ _ h => h) (Or.inl ⟨by kernel_rfl, ?ya124⟩) (by with_reducible assumption) ?ra124
      case ya124 => (intro w hSw; (try dsimp only at hSw); go_simp; (try with_reducible rfl))
      simp only [Act.put]
      refine wpAnyZ_last (i := 25) (by kernel_rfl) rfl (by kernel_rfl) ?_
      intro K25 hK25
      go_simp
      refine hK25.out _ _ ?_
      clear hK25
      go_wp2_with fail
      go_meet
      exact ⟨rfl, F5, B8⟩
    · subst hk
      refine wp_region_Z (S := fun w' => w'.cell? ⟨w1.heap.size, 0, none⟩ = some (.int .i64 m) ∧ w'.cell? ⟨w1.heap.size, 1, none⟩ = some (.slice A5 us.length cap5) ∧ w'.cell? ⟨w3.heap.size, 0, none⟩ = some (.int .i64 k7) ∧ w'.cell? ⟨w3.heap.size, 1, none⟩ = some (.slice A7 bs.length cap7)) (by kernel_rfl) ⟨F5.out.cells.1, F5.out.cells.2, F7.out.cells.1, F7.out.cells.2⟩ (fun hS => ?_)
      have G5 : Hid (VA (w3.alloc (MO A7 cap7 k7 bs)).drew w1.heap.size A5 cap5 m us) := Lib.hid (F5.out.below (below_dr (Below.refl _ _) 1))
      have G7 : Hid (VA (w3.alloc (MO A7 cap7 k7 bs)).drew w3.heap.size A7 cap7 k7 bs) := Lib.hid (F7.out.below (below_dr (Below.refl _ _) 1))
      have B3d : Hid (Below w.heap.size w (w3.alloc (MO A7 cap7 k7 bs)).drew) := Lib.hid (below_dr B3a.out 1)
      clear F5 F7
      have F5 := G5
      have F7 := G7
      clear G5 G7
      refine wpAnyZ_take (i := 0) (v := ?va00) rfl (by kernel_rfl) (by kernel_rfl) (by kernel_rfl) (by kernel_rfl) (fun _ _ _ h => h) (Or.inl ⟨by kernel_rfl, ?ya00⟩) (by with_reducible assumption) ?ra00
      case ya00 => (intro w hSw; (try dsimp only at hSw); go_simp; (try with_reducible rfl))
      simp only [Act.put, List.setIfInBounds_toArray]
      refine wpAnyZ_take (i := 1) (v := ?va01) rfl (by kernel_rfl) (by kernel_rfl) (by kernel_rfl) (by kernel_rfl) (fun _ _ _ h => h) (Or.inl ⟨by kernel_rfl, ?ya01⟩) (by with_reducible assumption) ?ra01
      case ya01 => (intro w hSw; (try dsimp only at hSw); go_simp; (try with_reducible rfl))
      simp only [Act.put]
      refine wpAnyZ_step (i := 2) (by kernel_rfl) rfl ?_
      intro K2 hK2
      go_simp
      refine (sFmtM_t m _ _ _ t _ F5.out.2.1 hl5 HTE.out).mono ?_
      rintro e w4 ⟨rfl, Hk⟩
      have G5 := Lib.hid (F5.out.below Hk.out)
      have G7 := Lib.hid (F7.out.below Hk.out)
      have B4 := Lib.hid (below_on B3d.out Hk.out)
      clear Hk F5 F7
      have F5 := G5
      have F7 := G7
      clear G5 G7
      refine hK2.out _ _ ⟨F5.out.cells.1, F5.out.cells.2, F7.out.cells.1, F7.out.cells.2⟩ (fun hS' => ?_)
      clear hK2 hS
      have hS := hS'
      clear hS'
      (try simp only [Act.put])
      refine wpAnyZ_take (i := 3) (v := .bool false) rfl (by kernel_rfl) (by kernel_rfl) (by kernel_rfl) (by kernel_rfl) (fun _ _ _ h => h) (Or.inl ⟨by kernel_rfl, ?ya03⟩) (by with_reducible assumption) ?ra03
      case ya03 => (intro w hSw; (try dsimp only at hSw); go_simp; (try with_reducible rfl); first | done | simp)
      simp only [Act.put]
      refine wpAnyZ_take (i := 4) (v := ?va04) rfl (by kernel_rfl) (by kernel_rfl) (by kernel_rfl) (by kernel_rfl) (fun _ _ _ h => h) (Or.inl ⟨by kernel_rfl, ?ya04⟩) (by with_reducible assumption) ?ra04
      case ya04 => (intro w hSw; (try dsimp only at hSw); go_simp; (try with_reducible rfl))
      simp only [Act.put]
      refine wpAnyZ_take (i := 5) (v := ?va05) rfl (by kernel_rfl) (by kernel_rfl) (by kernel_rfl) (by kernel_rfl) (fun _ _ _ h => h) (Or.inl ⟨by kernel_rfl, ?ya05⟩) (by with_reducible assumption) ?ra05
      case ya05 => (intro w hSw; (try dsimp only at hSw); go_simp; (try with_reducible rfl))
      simp only [Act.put]
      refine wpAnyZ_take (i := 7) (v := ?va07) rfl (by kernel_rfl) (by kernel_rfl) (by kernel_rfl) (by kernel_rfl) (fun _ _ _ h => h) (Or.inl ⟨by kernel_rfl, ?ya07⟩) (by with_reducible assumption) ?ra07
      case ya07 => (intro w hSw; (try dsimp only at hSw); go_simp; (try with_reducible rfl))
      simp only [Act.put]
      refine wpAnyZ_step (i := 6) (by kernel_rfl) rfl ?_
      intro K6 hK6
      go_simp
      refine (iValid_r m _ _ _ _ _ F5.out.2.1 hl5 HOK.out).mono ?_
      rintro e w5 ⟨rfl, Hk⟩
      have G5 := Lib.hid (F5.out.below Hk.out)
      have G7 := Lib.hid (F7.out.below Hk.out)
      have B5 := Lib.hid (below_on B4.out Hk.out)
      clear Hk F5 F7
      have F5 := G5
      have F7 := G7
      clear G5 G7
      refine hK6.out _ _ ⟨F5.out.cells.1, F5.out.cells.2, F7.out.cells.1, F7.out.cells.2⟩ (fun hS' => ?_)
      clear hK6 hS
      have hS := hS'
      clear hS'
      (try simp only [Act.put])
      refine wpAnyZ_step (i := 8) (by kernel_rfl) rfl ?_
      intro K8 hK8
      go_simp
      refine (sValid_r m _ _ _ _ _ F5.out.2.1 hl5 HOK.out).mono ?_
      rintro e w6 ⟨rfl, Hk⟩
      have G5 := Lib.hid (F5.out.below Hk.out)
      have G7 := Lib.hid (F7.out.below Hk.out)
      have B6 := Lib.hid (below_on B5.out Hk.out)
      clear Hk F5 F7
      have F5 := G5
      have F7 := G7
      clear G5 G7
      refine hK8.out _ _ ⟨F5.out.cells.1, F5.out.cells.2, F7.out.cells.1, F7.out.cells.2⟩ (fun hS' => ?_)
      clear hK8 hS
      have hS := hS'
      clear hS'
      (try simp only [Act.put])
      refine wpAnyZ_take (i := 9) (v := .bool false) rfl (by kernel_rfl) (by kernel_rfl) (by kernel_rfl) (by kernel_rfl) (fun _ _ _ h => h) (Or.inl ⟨by kernel_rfl, ?ya09⟩) (by with_reducible assumption) ?ra09
      case ya09 => (intro w hSw; (try dsimp only at hSw); go_simp; (try with_reducible rfl); first | done | simp)
      simp only [Act.put]
      refine wpAnyZ_take (i := 10) (v := ?va010) rfl (by kernel_rfl) (by kernel_rfl) (by kernel_rfl) (by kernel_rfl) (fun _ _ _ h => h) (Or.inl ⟨by kernel_rfl, ?ya010⟩) (by with_reducible assumption) ?ra010
      case ya010 => (intro w hSw; (try dsimp only at hSw); go_simp; (try with_reducible rfl))
      simp only [Act.put]
      refine wpAnyZ_take (i := 11) (v := ?va011) rfl (by kernel_rfl) (by kernel_rfl) (by kernel_rfl) (by kernel_rfl) (fun _ _ _ h => h) (Or.inl ⟨by kernel_rfl, ?ya011⟩) (by with_reducible assumption) ?ra011
      case ya011 => (intro w hSw; (try dsimp only at hSw); go_simp; (try with_reducible rfl))
      simp only [Act.put]
      refine wpAnyZ_take (i := 12) (v := ?va012) rfl (by kernel_rfl) (by kernel_rfl) (by kernel_rfl) (by kernel_rfl) (fun _ _ _ h => h) (Or.inl ⟨by kernel_rfl, ?ya012⟩) (by with_reducible assumption) ?ra012
      case ya012 => (intro w hSw; (try dsimp only at hSw); go_simp; (try with_reducible rfl))
      simp only [Act.put]
      refine wpAnyZ_take (i := 13) (v := ?va013) rfl (by kernel_rfl) (by kernel_rfl) (by kernel_rfl) (by kernel_rfl) (fun _ _ _ h => h) (Or.inl ⟨by kernel_rfl, ?ya013⟩) (by with_reducible assumption) ?ra013
      case ya013 => (intro w hSw; (try dsimp only at hSw); go_simp; (try with_reducible rfl))
      simp only [Act.put]
      refine wpAnyZ_step (i := 14) (by kernel_rfl) rfl ?_
      intro K14 hK14
      go_simp
      refine (iValid_r m _ _ _ _ _ F5.out.2.1 hl5 HOK.out).mono ?_
      rintro e w7 ⟨rfl, Hk⟩
      have G5 := Lib.hid (F5.out.below Hk.out)
      have G7 := Lib.hid (F7.out.below Hk.out)
      have B7 := Lib.hid (below_on B6.out Hk.out)
      clear Hk F5 F7
      have F5 := G5
      have F7 := G7
      clear G5 G7
      refine hK14.out _ _ ⟨F5.out.cells.1, F5.out.cells.2, F7.out.cells.1, F7.out.cells.2⟩ (fun hS' => ?_)
      clear hK14 hS
      have hS := hS'
      clear hS'
      (try simp only [Act.put])
      refine wpAnyZ_take (i := 15) (v := .bool false) rfl (by kernel_rfl) (by kernel_rfl) (by kernel_rfl) (by kernel_rfl) (fun _ _ _ h => h) (Or.inl ⟨by kernel_rfl, ?ya015⟩) (by with_reducible assumption) ?ra015
      case ya015 => (intro w hSw; (try dsimp only at hSw); go_simp; (try with_reducible rfl); first | done | simp)
      simp only [Act.put]
      refine wpAnyZ_take (i := 16) (v := ?va016) rfl (by kernel_rfl) (by kernel_rfl) (by kernel_rfl) (by kernel_rfl) (fun _ _ _ h => h) (Or.inl ⟨by kernel_rfl, ?ya016⟩) (by with_reducible assumption) ?ra016
      case ya016 => (intro w hSw; (try dsimp only at hSw); go_simp; (try with_reducible rfl))
      simp only [Act.put]
      refine wpAnyZ_take (i := 17) (v := ?va017) rfl (by kernel_rfl) (by kernel_rfl) (by kernel_rfl) (by kernel_rfl) (fun _ _ _ h => h) (Or.inl ⟨by kernel_rfl, ?ya017⟩) (by with_reducible assumption) ?ra017
      case ya017 => (intro w hSw; (try dsimp only at hSw); go_simp; (try with_reducible rfl))
      simp only [Act.put]
      refine wpAnyZ_take (i := 18) (v := ?va018) rfl (by kernel_rfl) (by kernel_rfl) (by kernel_rfl) (by kernel_rfl) (fun _ _ _ h => h) (Or.inl ⟨by kernel_rfl, ?ya018⟩) (by with_reducible assumption) ?ra018
      case ya018 => (intro w hSw; (try dsimp only at hSw); go_simp; (try with_reducible rfl))
      simp only [Act.put]
      refine wpAnyZ_take (i := 19) (v := ?va019) rfl (by kernel_rfl) (by kernel_rfl) (by kernel_rfl) (by kernel_rfl) (fun _ _ _ h => h) (Or.inl ⟨by kernel_rfl, ?ya019⟩) (by with_reducible assumption) ?ra019
      case ya019 => (intro w hSw; (try dsimp only at hSw); go_simp; (try with_reducible rfl))
      simp only [Act.put]
      refine wpAnyZ_take (i := 20) (v := undef) rfl (by kernel_rfl) (by kernel_rfl) (by kernel_rfl) (by kernel_rfl) (fun _ _ _ h => h) (Or.inr ⟨by kernel_rfl, rfl⟩) (by with_reducible assumption) ?ra020
      simp only [Act.put]
      refine wpAnyZ_take (i := 21) (v := undef) rfl (by kernel_rfl) (by kernel_rfl) (by kernel_rfl) (by kernel_rfl) (fun _ _ _ h => h) (Or.inr ⟨by kernel_rfl, rfl⟩) (by with_reducible assumption) ?ra021
      simp only [Act.put]
      refine wpAnyZ_take (i := 22) (v := undef) rfl (by kernel_rfl) (by kernel_rfl) (by kernel_rfl) (by kernel_rfl) (fun _ _ _ h => h) (Or.inr ⟨by kernel_rfl, rfl⟩) (by with_reducible assumption) ?ra022
      simp only [Act.put]
      refine wpAnyZ_take (i := 23) (v := undef) rfl (by kernel_rfl) (by kernel_rfl) (by kernel_rfl) (by kernel_rfl) (fun _ _ _ h => h) (Or.inr ⟨by kernel_rfl, rfl⟩) (by with_reducible assumption) ?ra023
      simp only [Act.put]
      refine wpAnyZ_take (i := 24) (v := ?va024) rfl (by kernel_rfl) (by kernel_rfl) (by kernel_rfl) (by kernel_rfl) (fun _ _ _ h => h) (Or.inl ⟨by kernel_rfl, ?ya024⟩) (by with_reducible assumption) ?ra024
      case ya024 => (intro w hSw; (try dsimp only at hSw); go_simp; (try with_reducible rfl))
      simp only [Act.put]
      refine wpAnyZ_last (i := 25) (by kernel_rfl) rfl (by kernel_rfl) ?_
      intro K25 hK25
      go_simp
      refine hK25.out _ _ ?_
      clear hK25
      go_wp2_with fail
      go_meet
      exact ⟨rfl, F5, B7⟩
  case rest =>
    clear F5 F7 B3a K7 hl7 HMB HBS HPO HPB HTE hts HFEW
    obtain ⟨rfl, F5, BC⟩ := hcut
    go_wp2_with fail
    refine (drawTM_any _ _ _ _ ((HY.out.below BC.out).more BC.out.size) HC.out HZ'.out).mono ?_
    rintro e w9 ⟨tx, rfl, htx, hk9⟩
    have Hk := Lib.hid hk9
    clear hk9
    have G5 := Lib.hid (F5.out.below Hk.out)
    have B9 := Lib.hid (below_on BC.out Hk.out)
    clear Hk F5
    have F5 := G5
    clear G5
    obtain ⟨mp, hmp⟩ : ∃ x, ((parseM tx.data.toList).getD (0, [])).1 = x := ⟨_, rfl⟩
    obtain ⟨ps, hps⟩ : ∃ x, ((parseM tx.data.toList).getD (0, [])).2 = x := ⟨_, rfl⟩
    obtain ⟨fine, hfn⟩ : ∃ x, (parseM tx.data.toList).isSome = x := ⟨_, rfl⟩
    have HMP := Lib.hid hmp
    have HPS := Lib.hid hps
    have HFN := Lib.hid hfn
    have HPT : Hid (fine = true → tx.data.toList = matF mp ps) := fun h => by
      cases hq : parseM tx.data.toList with
      | none => rw [hq] at hfn; rw [← hfn] at h; cases h
      | some x => rw [← hmp, ← hps, hq]; exact (mat_parse (m := x.1) (zs := x.2) hq).2.symm
    clear hmp hps hfn
    go_wp2_with fail
    refine (iParse_r tx _ mp ps fine (by omega) (HM.out.below B9.out HM.out.lt) HMP.out HPS.out HFN.out).mono ?_
    rintro e w10 ⟨k10, A10, cap10, rfl, K10, O10, hl10, Hk⟩
    have G5 := Lib.hid (F5.out.below Hk.out)
    have B10 := Lib.hid (below_on B9.out Hk.out)
    clear Hk F5
    have F5 := G5
    clear G5
    have G5 := Lib.hid (F5.out.al (MO A10 cap10 k10 ps))
    have B10a := Lib.hid (below_al B10.out (Nat.le_refl _) (MO A10 cap10 k10 ps))
    clear F5
    have F5 := G5
    clear G5
    have F10 := Lib.hid (VA.new rfl O10.out hl10 (m := k10))
    clear O10
    go_wp2_with fail
    refine (sParse_r tx _ mp ps fine (by omega) HMP.out HPS.out HFN.out).mono ?_
    rintro e w11 ⟨k12, A12, cap12, rfl, K12, O12, hl12, Hk⟩
    have G5 := Lib.hid (F5.out.below Hk.out)
    have G10 := Lib.hid (F10.out.below Hk.out)
    have B11 := Lib.hid (below_on B10a.out Hk.out)
    clear Hk F5 F10
    have F5 := G5
    have F10 := G10
    clear G5 G10
    have G5 := Lib.hid (F5.out.al (MO A12 cap12 k12 ps))
    have G10 := Lib.hid (F10.out.al (MO A12 cap12 k12 ps))
    have B11a := Lib.hid (below_al B11.out (Nat.le_refl _) (MO A12 cap12 k12 ps))
    clear F5 F10
    have F5 := G5
    have F10 := G10
    clear G5 G10
    have F12 := Lib.hid (VA.new rfl O12.out hl12 (m := k12))
    clear O12
    go_wp2_with fail
    refine (drawSame_any _ _ _ _ ((HY.out.below B11a.out).more B11a.out.size) HC.out HZ'.out).mono ?_
    rintro e w12 ⟨A14, A15, cap14, cap15, mx, my, xs, xy, rfl, O14, hl14', O15, hl15', Hk⟩
    have hl14 : xs.length ≤ 1048577 := by omega
    have hl15 : xy.length ≤ 1048577 := by omega
    clear hl14' hl15'
    have G5 := Lib.hid (F5.out.below Hk.out)
    have G10 := Lib.hid (F10.out.below Hk.out)
    have G12 := Lib.hid (F12.out.below Hk.out)
    have B12 := Lib.hid (below_on B11a.out Hk.out)
    clear Hk F5 F10 F12
    have F5 := G5
    have F10 := G10
    have F12 := G12
    clear G5 G10 G12
    have hw1l := F5.out.lt
    have G5 := Lib.hid (F5.out.al (MO A14 cap14 mx xs))
    have G10 := Lib.hid (F10.out.al (MO A14 cap14 mx xs))
    have G12 := Lib.hid (F12.out.al (MO A14 cap14 mx xs))
    have B12a := Lib.hid (below_al B12.out (Nat.le_refl _) (MO A14 cap14 mx xs))
    clear F5 F10 F12
    have F5 := G5
    have F10 := G10
    have F12 := G12
    clear G5 G10 G12
    have G5 := Lib.hid (F5.out.al (MO A15 cap15 my xy))
    have G10 := Lib.hid (F10.out.al (MO A15 cap15 my xy))
    have G12 := Lib.hid (F12.out.al (MO A15 cap15 my xy))
    have B12b := Lib.hid (below_al B12a.out (by have := B12.out.size; (try simp); (try omega)) (MO A15 cap15 my xy))
    clear F5 F10 F12
    have F5 := G5
    have F10 := G10
    have F12 := G12
    clear G5 G10 G12
    have F14 := Lib.hid ((VA.new rfl O14.out hl14 (m := mx)).al (MO A15 cap15 my xy))
    have F15 := Lib.hid (VA.new (g := w12.heap.size + 1) (by simp) (O15.out.alloc (MO A14 cap14 mx xs)) hl15 (m := my))
    clear O14 O15 hw1l
    obtain ⟨c50, c51⟩ := F5.out.cells
    have c52 := F5.out.lt
    go_wp2_with fail
    obtain ⟨mt, hmt⟩ : ∃ x, ((turnR m us).getD (0, [])).1 = x := ⟨_, rfl⟩
    obtain ⟨ts, hts⟩ : ∃ x, ((turnR m us).getD (0, [])).2 = x := ⟨_, rfl⟩
    obtain ⟨mu, hmu⟩ : ∃ x, ((turnR mt ts).getD (0, [])).1 = x := ⟨_, rfl⟩
    obtain ⟨vs, hvs⟩ : ∃ x, ((turnR mt ts).getD (0, [])).2 = x := ⟨_, rfl⟩
    obtain ⟨tk, htk⟩ : ∃ x, (turnR mt ts).isSome = x := ⟨_, rfl⟩
    have HMT := Lib.hid hmt
    have HTS := Lib.hid hts
    have HMU := Lib.hid hmu
    have HVS := Lib.hid hvs
    have HTK := Lib.hid htk
    have HTB : Hid (ok = true → mu = m ∧ us = vs) := fun h => by
      have e := turn_back (show matOk m us = true by rw [HOK.out, h])
      rw [hmt, hts] at e
      rw [← hmu, ← hvs, e]
      exact ⟨rfl, rfl⟩
    clear hmt hts hmu hvs htk
    refine (iTurn_r m mt _ ts ok _ _ _ F5.out.2.1 hl5 HMT.out HTS.out (turn_is HOK.out)).mono ?_
    rintro e w13 ⟨k16, A16, cap16, rfl, K16, O16, hl16, Hk⟩
    have G5 := Lib.hid (F5.out.below Hk.out)
    have G10 := Lib.hid (F10.out.below Hk.out)
    have G12 := Lib.hid (F12.out.below Hk.out)
    have G14 := Lib.hid (F14.out.below Hk.out)
    have G15 := Lib.hid (F15.out.below Hk.out)
    have B13 := Lib.hid (below_on B12b.out Hk.out)
    clear Hk F5 F10 F12 F14 F15 c50 c51 c52
    have F5 := G5
    have F10 := G10
    have F12 := G12
    have F14 := G14
    have F15 := G15
    clear G5 G10 G12 G14 G15
    have G5 := Lib.hid (F5.out.al (MO A16 cap16 k16 ts))
    have G10 := Lib.hid (F10.out.al (MO A16 cap16 k16 ts))
    have G12 := Lib.hid (F12.out.al (MO A16 cap16 k16 ts))
    have G14 := Lib.hid (F14.out.al (MO A16 cap16 k16 ts))
    have G15 := Lib.hid (F15.out.al (MO A16 cap16 k16 ts))
    have B13a := Lib.hid (below_al B13.out (Nat.le_refl _) (MO A16 cap16 k16 ts))
    clear F5 F10 F12 F14 F15
    have F5 := G5
    have F10 := G10
    have F12 := G12
    have F14 := G14
    have F15 := G15
    clear G5 G10 G12 G14 G15
    have F16 := Lib.hid (VA.new rfl O16.out hl16 (m := k16))
    clear O16
    obtain ⟨c160, c161⟩ := F16.out.cells
    have c162 := F16.out.lt
    go_wp2_with fail
    refine (iTurn_r k16 mu _ vs tk _ _ _ F16.out.2.1 hl16 (by rw [K16.out]; exact HMU.out) (by rw [K16.out]; exact HVS.out) (by rw [K16.out]; exact HTK.out)).mono ?_
    rintro e w14 ⟨k18, A18, cap18, rfl, K18, O18, hl18, Hk⟩
    have G5 := Lib.hid (F5.out.below Hk.out)
    have G10 := Lib.hid (F10.out.below Hk.out)
    have G12 := Lib.hid (F12.out.below Hk.out)
    have G14 := Lib.hid (F14.out.below Hk.out)
    have G15 := Lib.hid (F15.out.below Hk.out)
    have G16 := Lib.hid (F16.out.below Hk.out)
    have B14 := Lib.hid (below_on B13a.out Hk.out)
    clear Hk F5 F10 F12 F14 F15 F16 c160 c161 c162
    have F5 := G5
    have F10 := G10
    have F12 := G12
    have F14 := G14
    have F15 := G15
    have F16 := G16
    clear G5 G10 G12 G14 G15 G16
    have G5 := Lib.hid (F5.out.al (MO A18 cap18 k18 vs))
    have G10 := Lib.hid (F10.out.al (MO A18 cap18 k18 vs))
    have G12 := Lib.hid (F12.out.al (MO A18 cap18 k18 vs))
    have G14 := Lib.hid (F14.out.al (MO A18 cap18 k18 vs))
    have G15 := Lib.hid (F15.out.al (MO A18 cap18 k18 vs))
    have G16 := Lib.hid (F16.out.al (MO A18 cap18 k18 vs))
    have B14a := Lib.hid (below_al B14.out (Nat.le_refl _) (MO A18 cap18 k18 vs))
    clear F5 F10 F12 F14 F15 F16
    have F5 := G5
    have F10 := G10
    have F12 := G12
    have F14 := G14
    have F15 := G15
    have F16 := G16
    clear G5 G10 G12 G14 G15 G16
    have F18 := Lib.hid (VA.new rfl O18.out hl18 (m := k18))
    clear O18 F16 HMT HTS HMU HVS HTK
    obtain ⟨r, hr⟩ : ∃ r, (decide (mx = my) && decide (xs = xy)) = r := ⟨_, rfl⟩
    have HR := Lib.hid hr
    clear hr
    rcases Bool.eq_false_or_eq_true ok with hk | hk
    · subst hk
      obtain ⟨hm18, rfl⟩ := HTB.out (by trivial)
      have K18m := Lib.hid (K18.out.trans hm18)
      clear hm18
      rcases Bool.eq_false_or_eq_true fine with hk | hk
      · subst hk
        go_upto_region 14 with fail
        refine wp_region_Z (S := fun w' => w'.cell? ⟨w1.heap.size, 0, none⟩ = some (.int .i64 m) ∧ w'.cell? ⟨w1.heap.size, 1, none⟩ = some (.slice A5 us.length cap5) ∧ w'.cell? ⟨w10.heap.size, 0, none⟩ = some (.int .i64 k10) ∧ w'.cell? ⟨w10.heap.size, 1, none⟩ = some (.slice A10 ps.length cap10) ∧ w'.cell? ⟨w11.heap.size, 0, none⟩ = some (.int .i64 k12) ∧ w'.cell? ⟨w11.heap.size, 1, none⟩ = some (.slice A12 ps.length cap12) ∧ w'.cell? ⟨w12.heap.size, 0, none⟩ = some (.int .i64 mx) ∧ w'.cell? ⟨w12.heap.size, 1, none⟩ = some (.slice A14 xs.length cap14) ∧ w'.cell? ⟨w12.heap.size + 1, 0, none⟩ = some (.int .i64 my) ∧ w'.cell? ⟨w12.heap.size + 1, 1, none⟩ = some (.slice A15 xy.length cap15) ∧ w'.cell? ⟨w14.heap.size, 0, none⟩ = some (.int .i64 k18) ∧ w'.cell? ⟨w14.heap.size, 1, none⟩ = some (.slice A18 us.length cap18)) (by kernel_rfl) ⟨F5.out.cells.1, F5.out.cells.2, F10.out.cells.1, F10.out.cells.2, F12.out.cells.1, F12.out.cells.2, F14.out.cells.1, F14.out.cells.2, F15.out.cells.1, F15.out.cells.2, F18.out.cells.1, F18.out.cells.2⟩ (fun hS => ?_)
        have G5 : Hid (VA (w14.alloc (MO A18 cap18 k18 us)).drew w1.heap.size A5 cap5 m us) := Lib.hid (F5.out.below (below_dr (Below.refl _ _) 1))
        have G10 : Hid (VA (w14.alloc (MO A18 cap18 k18 us)).drew w10.heap.size A10 cap10 k10 ps) := Lib.hid (F10.out.below (below_dr (Below.refl _ _) 1))
        have G12 : Hid (VA (w14.alloc (MO A18 cap18 k18 us)).drew w11.heap.size A12 cap12 k12 ps) := Lib.hid (F12.out.below (below_dr (Below.refl _ _) 1))
        have G14 : Hid (VA (w14.alloc (MO A18 cap18 k18 us)).drew w12.heap.size A14 cap14 mx xs) := Lib.hid (F14.out.below (below_dr (Below.refl _ _) 1))
        have G15 : Hid (VA (w14.alloc (MO A18 cap18 k18 us)).drew (w12.heap.size + 1) A15 cap15 my xy) := Lib.hid (F15.out.below (below_dr (Below.refl _ _) 1))
        have G18 : Hid (VA (w14.alloc (MO A18 cap18 k18 us)).drew w14.heap.size A18 cap18 k18 us) := Lib.hid (F18.out.below (below_dr (Below.refl _ _) 1))
        have B14d : Hid (Below w.heap.size w (w14.alloc (MO A18 cap18 k18 us)).drew) := Lib.hid (below_dr B14a.out 1)
        clear F5 F10 F12 F14 F15 F18
        have F5 := G5
        have F10 := G10
        have F12 := G12
        have F14 := G14
        have F15 := G15
        have F18 := G18
        clear G5 G10 G12 G14 G15 G18
        refine wpAnyZ_take (i := 0) (v := ?vb1110) rfl (by kernel_rfl) (by kernel_rfl) (by kernel_rfl) (by kernel_rfl) (fun _ _ _ h => h) (Or.inl ⟨by kernel_rfl, ?yb1110⟩) (by with_reducible assumption) ?rb1110
        case yb1110 => (intro w hSw; (try dsimp only at hSw); go_simp; (try with_reducible rfl))
        simp only [Act.put, List.setIfInBounds_toArray]
        refine wpAnyZ_take (i := 1) (v := ?vb1111) rfl (by kernel_rfl) (by kernel_rfl) (by kernel_rfl) (by kernel_rfl) (fun _ _ _ h => h) (Or.inl ⟨by kernel_rfl, ?yb1111⟩) (by with_reducible assumption) ?rb1111
        case yb1111 => (intro w hSw; (try dsimp only at hSw); go_simp; (try with_reducible rfl))
        simp only [Act.put]
        refine wpAnyZ_step (i := 2) (by kernel_rfl) rfl ?_
        intro K2 hK2
        go_simp
        refine (da_r _ _ _ _ _ _ _ _ (K10.out.trans K12.out.symm) F10.out.2.1 F12.out.2.1 hl10).mono ?_
        rintro e w15 ⟨rfl, Hk⟩
        have G5 := Lib.hid (F5.out.below Hk.out)
        have G10 := Lib.hid (F10.out.below Hk.out)
        have G12 := Lib.hid (F12.out.below Hk.out)
        have G14 := Lib.hid (F14.out.below Hk.out)
        have G15 := Lib.hid (F15.out.below Hk.out)
        have G18 := Lib.hid (F18.out.below Hk.out)
        have B15 := Lib.hid (below_on B14d.out Hk.out)
        clear Hk F5 F10 F12 F14 F15 F18
        have F5 := G5
        have F10 := G10
        have F12 := G12
        have F14 := G14
        have F15 := G15
        have F18 := G18
        clear G5 G10 G12 G14 G15 G18
        refine hK2.out _ _ ⟨F5.out.cells.1, F5.out.cells.2, F10.out.cells.1, F10.out.cells.2, F12.out.cells.1, F12.out.cells.2, F14.out.cells.1, F14.out.cells.2, F15.out.cells.1, F15.out.cells.2, F18.out.cells.1, F18.out.cells.2⟩ (fun hS' => ?_)
        clear hK2 hS
        have hS := hS'
        clear hS'
        (try simp only [Act.put])
        refine wpAnyZ_take (i := 3) (v := ?vb1113) rfl (by kernel_rfl) (by kernel_rfl) (by kernel_rfl) (by kernel_rfl) (fun _ _ _ h => h) (Or.inl ⟨by kernel_rfl, ?yb1113⟩) (by with_reducible assumption) ?rb1113
        case yb1113 => (intro w hSw; (try dsimp only at hSw); go_simp; (try with_reducible rfl))
        simp only [Act.put]
        refine wpAnyZ_take (i := 4) (v := ?vb1114) rfl (by kernel_rfl) (by kernel_rfl) (by kernel_rfl) (by kernel_rfl) (fun _ _ _ h => h) (Or.inl ⟨by kernel_rfl, ?yb1114⟩) (by with_reducible assumption) ?rb1114
        case yb1114 => (intro w hSw; (try dsimp only at hSw); go_simp; (try with_reducible rfl))
        simp only [Act.put]
        refine wpAnyZ_take (i := 5) (v := ?vb1115) rfl (by kernel_rfl) (by kernel_rfl) (by kernel_rfl) (by kernel_rfl) (fun _ _ _ h => h) (Or.inl ⟨by kernel_rfl, ?yb1115⟩) (by with_reducible assumption) ?rb1115
        case yb1115 => (intro w hSw; (try dsimp only at hSw); go_simp; (try with_reducible rfl))
        simp only [Act.put]
        refine wpAnyZ_take (i := 6) (v := .bool true) rfl (by kernel_rfl) (by kernel_rfl) (by kernel_rfl) (by kernel_rfl) (fun _ _ _ h => h) (Or.inl ⟨by kernel_rfl, ?yb1116⟩) (by with_reducible assumption) ?rb1116
        case yb1116 => (intro w hSw; (try dsimp only at hSw); go_simp; (try with_reducible rfl); first | done | simp)
        simp only [Act.put]
        refine wpAnyZ_take (i := 7) (v := ?vb1117) rfl (by kernel_rfl) (by kernel_rfl) (by kernel_rfl) (by kernel_rfl) (fun _ _ _ h => h) (Or.inl ⟨by kernel_rfl, ?yb1117⟩) (by with_reducible assumption) ?rb1117
        case yb1117 => (intro w hSw; (try dsimp only at hSw); go_simp; (try with_reducible rfl))
        simp only [Act.put]
        refine wpAnyZ_take (i := 8) (v := ?vb1118) rfl (by kernel_rfl) (by kernel_rfl) (by kernel_rfl) (by kernel_rfl) (fun _ _ _ h => h) (Or.inl ⟨by kernel_rfl, ?yb1118⟩) (by with_reducible assumption) ?rb1118
        case yb1118 => (intro w hSw; (try dsimp only at hSw); go_simp; (try with_reducible rfl))
        simp only [Act.put]
        refine wpAnyZ_take (i := 9) (v := ?vb1119) rfl (by kernel_rfl) (by kernel_rfl) (by kernel_rfl) (by kernel_rfl) (fun _ _ _ h => h) (Or.inl ⟨by kernel_rfl, ?yb1119⟩) (by with_reducible assumption) ?rb1119
        case yb1119 => (intro w hSw; (try dsimp only at hSw); go_simp; (try with_reducible rfl))
        simp only [Act.put]
        refine wpAnyZ_take (i := 10) (v := ?vb11110) rfl (by kernel_rfl) (by kernel_rfl) (by kernel_rfl) (by kernel_rfl) (fun _ _ _ h => h) (Or.inl ⟨by kernel_rfl, ?yb11110⟩) (by with_reducible assumption) ?rb11110
        case yb11110 => (intro w hSw; (try dsimp only at hSw); go_simp; (try with_reducible rfl))
        simp only [Act.put]
        refine wpAnyZ_take (i := 11) (v := ?vb11111) rfl (by kernel_rfl) (by kernel_rfl) (by kernel_rfl) (by kernel_rfl) (fun _ _ _ h => h) (Or.inl ⟨by kernel_rfl, ?yb11111⟩) (by with_reducible assumption) ?rb11111
        case yb11111 => (intro w hSw; (try dsimp only at hSw); go_simp; (try with_reducible rfl))
        simp only [Act.put]
        refine wpAnyZ_take (i := 12) (v := ?vb11112) rfl (by kernel_rfl) (by kernel_rfl) (by kernel_rfl) (by kernel_rfl) (fun _ _ _ h => h) (Or.inl ⟨by kernel_rfl, ?yb11112⟩) (by with_reducible assumption) ?rb11112
        case yb11112 => (intro w hSw; (try dsimp only at hSw); go_simp; (try with_reducible rfl))
        simp only [Act.put]
        refine wpAnyZ_take (i := 14) (v := ?vb11114) rfl (by kernel_rfl) (by kernel_rfl) (by kernel_rfl) (by kernel_rfl) (fun _ _ _ h => h) (Or.inl ⟨by kernel_rfl, ?yb11114⟩) (by with_reducible assumption) ?rb11114
        case yb11114 => (intro w hSw; (try dsimp only at hSw); go_simp; (try with_reducible rfl))
        simp only [Act.put]
        refine wpAnyZ_step (i := 13) (by kernel_rfl) rfl ?_
        intro K13 hK13
        go_simp
        refine (iFmtM_t mp _ _ _ _ tx _ K10.out F10.out.2.1 hl10 (HPT.out (by trivial)) (tab10_below HT.out B15.out HG.out) (Nat.lt_of_lt_of_le HG.out B15.out.size)).mono ?_
        rintro e w16 ⟨rfl, Hk⟩
        have G5 := Lib.hid (F5.out.below Hk.out)
        have G10 := Lib.hid (F10.out.below Hk.out)
        have G12 := Lib.hid (F12.out.below Hk.out)
        have G14 := Lib.hid (F14.out.below Hk.out)
        have G15 := Lib.hid (F15.out.below Hk.out)
        have G18 := Lib.hid (F18.out.below Hk.out)
        have B16 := Lib.hid (below_on B15.out Hk.out)
        clear Hk F5 F10 F12 F14 F15 F18
        have F5 := G5
        have F10 := G10
        have F12 := G12
        have F14 := G14
        have F15 := G15
        have F18 := G18
        clear G5 G10 G12 G14 G15 G18
        refine hK13.out _ _ ⟨F5.out.cells.1, F5.out.cells.2, F10.out.cells.1, F10.out.cells.2, F12.out.cells.1, F12.out.cells.2, F14.out.cells.1, F14.out.cells.2, F15.out.cells.1, F15.out.cells.2, F18.out.cells.1, F18.out.cells.2⟩ (fun hS' => ?_)
        clear hK13 hS
        have hS := hS'
        clear hS'
        (try simp only [Act.put])
        refine wpAnyZ_take (i := 15) (v := .bool true) rfl (by kernel_rfl) (by kernel_rfl) (by kernel_rfl) (by kernel_rfl) (fun _ _ _ h => h) (Or.inl ⟨by kernel_rfl, ?yb11115⟩) (by with_reducible assumption) ?rb11115
        case yb11115 => (intro w hSw; (try dsimp only at hSw); go_simp; (try with_reducible rfl); first | done | simp)
        simp only [Act.put]
        refine wpAnyZ_take (i := 16) (v := ?vb11116) rfl (by kernel_rfl) (by kernel_rfl) (by kernel_rfl) (by kernel_rfl) (fun _ _ _ h => h) (Or.inl ⟨by kernel_rfl, ?yb11116⟩) (by with_reducible assumption) ?rb11116
        case yb11116 => (intro w hSw; (try dsimp only at hSw); go_simp; (try with_reducible rfl))
        simp only [Act.put]
        refine wpAnyZ_take (i := 17) (v := ?vb11117) rfl (by kernel_rfl) (by kernel_rfl) (by kernel_rfl) (by kernel_rfl) (fun _ _ _ h => h) (Or.inl ⟨by kernel_rfl, ?yb11117⟩) (by with_reducible assumption) ?rb11117
        case yb11117 => (intro w hSw; (try dsimp only at hSw); go_simp; (try with_reducible rfl))
        simp only [Act.put]
        refine wpAnyZ_take (i := 18) (v := ?vb11118) rfl (by kernel_rfl) (by kernel_rfl) (by kernel_rfl) (by kernel_rfl) (fun _ _ _ h => h) (Or.inl ⟨by kernel_rfl, ?yb11118⟩) (by with_reducible assumption) ?rb11118
        case yb11118 => (intro w hSw; (try dsimp only at hSw); go_simp; (try with_reducible rfl))
        simp only [Act.put]
        refine wpAnyZ_take (i := 19) (v := ?vb11119) rfl (by kernel_rfl) (by kernel_rfl) (by kernel_rfl) (by kernel_rfl) (fun _ _ _ h => h) (Or.inl ⟨by kernel_rfl, ?yb11119⟩) (by with_reducible assumption) ?rb11119
        case yb11119 => (intro w hSw; (try dsimp only at hSw); go_simp; (try with_reducible rfl))
        simp only [Act.put]
        refine wpAnyZ_take (i := 20) (v := ?vb11120) rfl (by kernel_rfl) (by kernel_rfl) (by kernel_rfl) (by kernel_rfl) (fun _ _ _ h => h) (Or.inl ⟨by kernel_rfl, ?yb11120⟩) (by with_reducible assumption) ?rb11120
        case yb11120 => (intro w hSw; (try dsimp only at hSw); go_simp; (try with_reducible rfl))
        simp only [Act.put]
        refine wpAnyZ_take (i := 22) (v := ?vb11122) rfl (by kernel_rfl) (by kernel_rfl) (by kernel_rfl) (by kernel_rfl) (fun _ _ _ h => h) (Or.inl ⟨by kernel_rfl, ?yb11122⟩) (by with_reducible assumption) ?rb11122
        case yb11122 => (intro w hSw; (try dsimp only at hSw); go_simp; (try with_reducible rfl))
        simp only [Act.put]
        refine wpAnyZ_take (i := 23) (v := ?vb11123) rfl (by kernel_rfl) (by kernel_rfl) (by kernel_rfl) (by kernel_rfl) (fun _ _ _ h => h) (Or.inl ⟨by kernel_rfl, ?yb11123⟩) (by with_reducible assumption) ?rb11123
        case yb11123 => (intro w hSw; (try dsimp only at hSw); go_simp; (try with_reducible rfl))
        simp only [Act.put]
        refine wpAnyZ_step (i := 21) (by kernel_rfl) rfl ?_
        intro K21 hK21
        go_simp
        refine (iSame_r mx my _ _ _ _ _ _ _ _ F14.out.2.1 F15.out.2.1 hl14 hl15 HR.out).mono ?_
        rintro e w17 ⟨rfl, Hk⟩
        have G5 := Lib.hid (F5.out.below Hk.out)
        have G10 := Lib.hid (F10.out.below Hk.out)
        have G12 := Lib.hid (F12.out.below Hk.out)
        have G14 := Lib.hid (F14.out.below Hk.out)
        have G15 := Lib.hid (F15.out.below Hk.out)
        have G18 := Lib.hid (F18.out.below Hk.out)
        have B17 := Lib.hid (below_on B16.out Hk.out)
        clear Hk F5 F10 F12 F14 F15 F18
        have F5 := G5
        have F10 := G10
        have F12 := G12
        have F14 := G14
        have F15 := G15
        have F18 := G18
        clear G5 G10 G12 G14 G15 G18
        refine hK21.out _ _ ⟨F5.out.cells.1, F5.out.cells.2, F10.out.cells.1, F10.out.cells.2, F12.out.cells.1, F12.out.cells.2, F14.out.cells.1, F14.out.cells.2, F15.out.cells.1, F15.out.cells.2, F18.out.cells.1, F18.out.cells.2⟩ (fun hS' => ?_)
        clear hK21 hS
        have hS := hS'
        clear hS'
        (try simp only [Act.put])
        refine wpAnyZ_step (i := 24) (by kernel_rfl) rfl ?_
        intro K24 hK24
        go_simp
        refine (daM_r mx my _ _ _ _ _ _ _ _ F14.out.2.1 F15.out.2.1 hl14 hl15 HR.out).mono ?_
        rintro e w18 ⟨rfl, Hk⟩
        have G5 := Lib.hid (F5.out.below Hk.out)
        have G10 := Lib.hid (F10.out.below Hk.out)
        have G12 := Lib.hid (F12.out.below Hk.out)
        have G14 := Lib.hid (F14.out.below Hk.out)
        have G15 := Lib.hid (F15.out.below Hk.out)
        have G18 := Lib.hid (F18.out.below Hk.out)
        have B18 := Lib.hid (below_on B17.out Hk.out)
        clear Hk F5 F10 F12 F14 F15 F18
        have F5 := G5
        have F10 := G10
        have F12 := G12
        have F14 := G14
        have F15 := G15
        have F18 := G18
        clear G5 G10 G12 G14 G15 G18
        refine hK24.out _ _ ⟨F5.out.cells.1, F5.out.cells.2, F10.out.cells.1, F10.out.cells.2, F12.out.cells.1, F12.out.cells.2, F14.out.cells.1, F14.out.cells.2, F15.out.cells.1, F15.out.cells.2, F18.out.cells.1, F18.out.cells.2⟩ (fun hS' => ?_)
        clear hK24 hS
        have hS := hS'
        clear hS'
        (try simp only [Act.put])
        refine wpAnyZ_take (i := 25) (v := .bool true) rfl (by kernel_rfl) (by kernel_rfl) (by kernel_rfl) (by kernel_rfl) (fun _ _ _ h => h) (Or.inl ⟨by kernel_rfl, ?yb11125⟩) (by with_reducible assumption) ?rb11125
        case yb11125 => (intro w hSw; (try dsimp only at hSw); go_simp; (try with_reducible rfl); first | done | simp)
        simp only [Act.put]
        refine wpAnyZ_take (i := 26) (v := ?vb11126) rfl (by kernel_rfl) (by kernel_rfl) (by kernel_rfl) (by kernel_rfl) (fun _ _ _ h => h) (Or.inl ⟨by kernel_rfl, ?yb11126⟩) (by with_reducible assumption) ?rb11126
        case yb11126 => (intro w hSw; (try dsimp only at hSw); go_simp; (try with_reducible rfl))
        simp only [Act.put]
        refine wpAnyZ_take (i := 27) (v := ?vb11127) rfl (by kernel_rfl) (by kernel_rfl) (by kernel_rfl) (by kernel_rfl) (fun _ _ _ h => h) (Or.inl ⟨by kernel_rfl, ?yb11127⟩) (by with_reducible assumption) ?rb11127
        case yb11127 => (intro w hSw; (try dsimp only at hSw); go_simp; (try with_reducible rfl))
        simp only [Act.put]
        refine wpAnyZ_take (i := 28) (v := ?vb11128) rfl (by kernel_rfl) (by kernel_rfl) (by kernel_rfl) (by kernel_rfl) (fun _ _ _ h => h) (Or.inl ⟨by kernel_rfl, ?yb11128⟩) (by with_reducible assumption) ?rb11128
        case yb11128 => (intro w hSw; (try dsimp only at hSw); go_simp; (try with_reducible rfl))
        simp only [Act.put]
        refine wpAnyZ_take (i := 29) (v := ?vb11129) rfl (by kernel_rfl) (by kernel_rfl) (by kernel_rfl) (by kernel_rfl) (fun _ _ _ h => h) (Or.inl ⟨by kernel_rfl, ?yb11129⟩) (by with_reducible assumption) ?rb11129
        case yb11129 => (intro w hSw; (try dsimp only at hSw); go_simp; (try with_reducible rfl))
        simp only [Act.put]
        refine wpAnyZ_take (i := 30) (v := .bool true) rfl (by kernel_rfl) (by kernel_rfl) (by kernel_rfl) (by kernel_rfl) (fun _ _ _ h => h) (Or.inl ⟨by kernel_rfl, ?yb11130⟩) (by with_reducible assumption) ?rb11130
        case yb11130 => (intro w hSw; (try dsimp only at hSw); go_simp; (try with_reducible rfl); first | done | simp)
        simp only [Act.put]
        refine wpAnyZ_take (i := 31) (v := ?vb11131) rfl (by kernel_rfl) (by kernel_rfl) (by kernel_rfl) (by kernel_rfl) (fun _ _ _ h => h) (Or.inl ⟨by kernel_rfl, ?yb11131⟩) (by with_reducible assumption) ?rb11131
        case yb11131 => (intro w hSw; (try dsimp only at hSw); go_simp; (try with_reducible rfl))
        simp only [Act.put]
        refine wpAnyZ_take (i := 32) (v := ?vb11132) rfl (by kernel_rfl) (by kernel_rfl) (by kernel_rfl) (by kernel_rfl) (fun _ _ _ h => h) (Or.inl ⟨by kernel_rfl, ?yb11132⟩) (by with_reducible assumption) ?rb11132
        case yb11132 => (intro w hSw; (try dsimp only at hSw); go_simp; (try with_reducible rfl))
        simp only [Act.put]
        refine wpAnyZ_take (i := 33) (v := ?vb11133) rfl (by kernel_rfl) (by kernel_rfl) (by kernel_rfl) (by kernel_rfl) (fun _ _ _ h => h) (Or.inl ⟨by kernel_rfl, ?yb11133⟩) (by with_reducible assumption) ?rb11133
        case yb11133 => (intro w hSw; (try dsimp only at hSw); go_simp; (try with_reducible rfl))
        simp only [Act.put]
        refine wpAnyZ_take (i := 34) (v := ?vb11134) rfl (by kernel_rfl) (by kernel_rfl) (by kernel_rfl) (by kernel_rfl) (fun _ _ _ h => h) (Or.inl ⟨by kernel_rfl, ?yb11134⟩) (by with_reducible assumption) ?rb11134
        case yb11134 => (intro w hSw; (try dsimp only at hSw); go_simp; (try with_reducible rfl))
        simp only [Act.put]
        refine wpAnyZ_take (i := 35) (v := ?vb11135) rfl (by kernel_rfl) (by kernel_rfl) (by kernel_rfl) (by kernel_rfl) (fun _ _ _ h => h) (Or.inl ⟨by kernel_rfl, ?yb11135⟩) (by with_reducible assumption) ?rb11135
        case yb11135 => (intro w hSw; (try dsimp only at hSw); go_simp; (try with_reducible rfl))
        simp only [Act.put]
        refine wpAnyZ_take (i := 36) (v := ?vb11136) rfl (by kernel_rfl) (by kernel_rfl) (by kernel_rfl) (by kernel_rfl) (fun _ _ _ h => h) (Or.inl ⟨by kernel_rfl, ?yb11136⟩) (by with_reducible assumption) ?rb11136
        case yb11136 => (intro w hSw; (try dsimp only at hSw); go_simp; (try with_reducible rfl))
        simp only [Act.put]
        refine wpAnyZ_take (i := 37) (v := ?vb11137) rfl (by kernel_rfl) (by kernel_rfl) (by kernel_rfl) (by kernel_rfl) (fun _ _ _ h => h) (Or.inl ⟨by kernel_rfl, ?yb11137⟩) (by with_reducible assumption) ?rb11137
        case yb11137 => (intro w hSw; (try dsimp only at hSw); go_simp; (try with_reducible rfl))
        simp only [Act.put]
        refine wpAnyZ_step (i := 38) (by kernel_rfl) rfl ?_
        intro K38 hK38
        go_simp
        refine (da_r _ _ _ _ _ _ _ _ K18m.out F18.out.2.1 F5.out.2.1 hl5).mono ?_
        rintro e w19 ⟨rfl, Hk⟩
        have G5 := Lib.hid (F5.out.below Hk.out)
        have G10 := Lib.hid (F10.out.below Hk.out)
        have G12 := Lib.hid (F12.out.below Hk.out)
        have G14 := Lib.hid (F14.out.below Hk.out)
        have G15 := Lib.hid (F15.out.below Hk.out)
        have G18 := Lib.hid (F18.out.below Hk.out)
        have B19 := Lib.hid (below_on B18.out Hk.out)
        clear Hk F5 F10 F12 F14 F15 F18
        have F5 := G5
        have F10 := G10
        have F12 := G12
        have F14 := G14
        have F15 := G15
        have F18 := G18
        clear G5 G10 G12 G14 G15 G18
        refine hK38.out _ _ ⟨F5.out.cells.1, F5.out.cells.2, F10.out.cells.1, F10.out.cells.2, F12.out.cells.1, F12.out.cells.2, F14.out.cells.1, F14.out.cells.2, F15.out.cells.1, F15.out.cells.2, F18.out.cells.1, F18.out.cells.2⟩ (fun hS' => ?_)
        clear hK38 hS
        have hS := hS'
        clear hS'
        (try simp only [Act.put])
        refine wpAnyZ_take (i := 39) (v := ?vb11139) rfl (by kernel_rfl) (by kernel_rfl) (by kernel_rfl) (by kernel_rfl) (fun _ _ _ h => h) (Or.inl ⟨by kernel_rfl, ?yb11139⟩) (by with_reducible assumption) ?rb11139
        case yb11139 => (intro w hSw; (try dsimp only at hSw); go_simp; (try with_reducible rfl))
        simp only [Act.put]
        refine wpAnyZ_take (i := 40) (v := ?vb11140) rfl (by kernel_rfl) (by kernel_rfl) (by kernel_rfl) (by kernel_rfl) (fun _ _ _ h => h) (Or.inl ⟨by kernel_rfl, ?yb11140⟩) (by with_reducible assumption) ?rb11140
        case yb11140 => (intro w hSw; (try dsimp only at hSw); go_simp; (try with_reducible rfl))
        simp only [Act.put]
        refine wpAnyZ_last (i := 41) (by kernel_rfl) rfl (by kernel_rfl) ?_
        intro K41 hK41
        go_simp
        refine hK41.out _ _ ?_
        clear hK41
        go_wp2_with fail
        go_ret
        exact ⟨rfl, B19.out⟩
      · subst hk
        go_upto_region 14 with fail
        refine wp_region_Z (S := fun w' => w'.cell? ⟨w1.heap.size, 0, none⟩ = some (.int .i64 m) ∧ w'.cell? ⟨w1.heap.size, 1, none⟩ = some (.slice A5 us.length cap5) ∧ w'.cell? ⟨w10.heap.size, 0, none⟩ = some (.int .i64 k10) ∧ w'.cell? ⟨w10.heap.size, 1, none⟩ = some (.slice A10 ps.length cap10) ∧ w'.cell? ⟨w11.heap.size, 0, none⟩ = some (.int .i64 k12) ∧ w'.cell? ⟨w11.heap.size, 1, none⟩ = some (.slice A12 ps.length cap12) ∧ w'.cell? ⟨w12.heap.size, 0, none⟩ = some (.int .i64 mx) ∧ w'.cell? ⟨w12.heap.size, 1, none⟩ = some (.slice A14 xs.length cap14) ∧ w'.cell? ⟨w12.heap.size + 1, 0, none⟩ = some (.int .i64 my) ∧ w'.cell? ⟨w12.heap.size + 1, 1, none⟩ = some (.slice A15 xy.length cap15) ∧ w'.cell? ⟨w14.heap.size, 0, none⟩ = some (.int .i64 k18) ∧ w'.cell? ⟨w14.heap.size, 1, none⟩ = some (.slice A18 us.length cap18)) (by kernel_rfl) ⟨F5.out.cells.1, F5.out.cells.2, F10.out.cells.1, F10.out.cells.2, F12.out.cells.1, F12.out.cells.2, F14.out.cells.1, F14.out.cells.2, F15.out.cells.1, F15.out.cells.2, F18.out.cells.1, F18.out.cells.2⟩ (fun hS => ?_)
        have G5 : Hid (VA (w14.alloc (MO A18 cap18 k18 us)).drew w1.heap.size A5 cap5 m us) := Lib.hid (F5.out.below (below_dr (Below.refl _ _) 1))
        have G10 : Hid (VA (w14.alloc (MO A18 cap18 k18 us)).drew w10.heap.size A10 cap10 k10 ps) := Lib.hid (F10.out.below (below_dr (Below.refl _ _) 1))
        have G12 : Hid (VA (w14.alloc (MO A18 cap18 k18 us)).drew w11.heap.size A12 cap12 k12 ps) := Lib.hid (F12.out.below (below_dr (Below.refl _ _) 1))
        have G14 : Hid (VA (w14.alloc (MO A18 cap18 k18 us)).drew w12.heap.size A14 cap14 mx xs) := Lib.hid (F14.out.below (below_dr (Below.refl _ _) 1))
        have G15 : Hid (VA (w14.alloc (MO A18 cap18 k18 us)).drew (w12.heap.size + 1) A15 cap15 my xy) := Lib.hid (F15.out.below (below_dr (Below.refl _ _) 1))
        have G18 : Hid (VA (w14.alloc (MO A18 cap18 k18 us)).drew w14.heap.size A18 cap18 k18 us) := Lib.hid (F18.out.below (below_dr (Below.refl _ _) 1))
        have B14d : Hid (Below w.heap.size w (w14.alloc (MO A18 cap18 k18 us)).drew) := Lib.hid (below_dr B14a.out 1)
        clear F5 F10 F12 F14 F15 F18
        have F5 := G5
        have F10 := G10
        have F12 := G12
        have F14 := G14
        have F15 := G15
        have F18 := G18
        clear G5 G10 G12 G14 G15 G18
        refine wpAnyZ_take (i := 0) (v := ?vb1010) rfl (by kernel_rfl) (by kernel_rfl) (by kernel_rfl) (by kernel_rfl) (fun _ _ _ h => h) (Or.inl ⟨by kernel_rfl, ?yb1010⟩) (by with_reducible assumption) ?rb1010
        case yb1010 => (intro w hSw; (try dsimp only at hSw); go_simp; (try with_reducible rfl))
        simp only [Act.put, List.setIfInBounds_toArray]
        refine wpAnyZ_take (i := 1) (v := ?vb1011) rfl (by kernel_rfl) (by kernel_rfl) (by kernel_rfl) (by kernel_rfl) (fun _ _ _ h => h) (Or.inl ⟨by kernel_rfl, ?yb1011⟩) (by with_reducible assumption) ?rb1011
        case yb1011 => (intro w hSw; (try dsimp only at hSw); go_simp; (try with_reducible rfl))
        simp only [Act.put]
        refine wpAnyZ_step (i := 2) (by kernel_rfl) rfl ?_
        intro K2 hK2
        go_simp
        refine (da_r _ _ _ _ _ _ _ _ (K10.out.trans K12.out.symm) F10.out.2.1 F12.out.2.1 hl10).mono ?_
        rintro e w15 ⟨rfl, Hk⟩
        have G5 := Lib.hid (F5.out.below Hk.out)
        have G10 := Lib.hid (F10.out.below Hk.out)
        have G12 := Lib.hid (F12.out.below Hk.out)
        have G14 := Lib.hid (F14.out.below Hk.out)
        have G15 := Lib.hid (F15.out.below Hk.out)
        have G18 := Lib.hid (F18.out.below Hk.out)
        have B15 := Lib.hid (below_on B14d.out Hk.out)
        clear Hk F5 F10 F12 F14 F15 F18
        have F5 := G5
        have F10 := G10
        have F12 := G12
        have F14 := G14
        have F15 := G15
        have F18 := G18
        clear G5 G10 G12 G14 G15 G18
        refine hK2.out _ _ ⟨F5.out.cells.1, F5.out.cells.2, F10.out.cells.1, F10.out.cells.2, F12.out.cells.1, F12.out.cells.2, F14.out.cells.1, F14.out.cells.2, F15.out.cells.1, F15.out.cells.2, F18.out.cells.1, F18.out.cells.2⟩ (fun hS' => ?_)
        clear hK2 hS
        have hS := hS'
        clear hS'
        (try simp only [Act.put])
        refine wpAnyZ_take (i := 3) (v := ?vb1013) rfl (by kernel_rfl) (by kernel_rfl) (by kernel_rfl) (by kernel_rfl) (fun _ _ _ h => h) (Or.inl ⟨by kernel_rfl, ?yb1013⟩) (by with_reducible assumption) ?rb1013
        case yb1013 => (intro w hSw; (try dsimp only at hSw); go_simp; (try with_reducible rfl))
        simp only [Act.put]
        refine wpAnyZ_take (i := 4) (v := ?vb1014) rfl (by kernel_rfl) (by kernel_rfl) (by kernel_rfl) (by kernel_rfl) (fun _ _ _ h => h) (Or.inl ⟨by kernel_rfl, ?yb1014⟩) (by with_reducible assumption) ?rb1014
        case yb1014 => (intro w hSw; (try dsimp only at hSw); go_simp; (try with_reducible rfl))
        simp only [Act.put]
        refine wpAnyZ_take (i := 5) (v := ?vb1015) rfl (by kernel_rfl) (by kernel_rfl) (by kernel_rfl) (by kernel_rfl) (fun _ _ _ h => h) (Or.inl ⟨by kernel_rfl, ?yb1015⟩) (by with_reducible assumption) ?rb1015
        case yb1015 => (intro w hSw; (try dsimp only at hSw); go_simp; (try with_reducible rfl))
        simp only [Act.put]
        refine wpAnyZ_take (i := 6) (v := .bool true) rfl (by kernel_rfl) (by kernel_rfl) (by kernel_rfl) (by kernel_rfl) (fun _ _ _ h => h) (Or.inl ⟨by kernel_rfl, ?yb1016⟩) (by with_reducible assumption) ?rb1016
        case yb1016 => (intro w hSw; (try dsimp only at hSw); go_simp; (try with_reducible rfl); first | done | simp)
        simp only [Act.put]
        refine wpAnyZ_take (i := 7) (v := ?vb1017) rfl (by kernel_rfl) (by kernel_rfl) (by kernel_rfl) (by kernel_rfl) (fun _ _ _ h => h) (Or.inl ⟨by kernel_rfl, ?yb1017⟩) (by with_reducible assumption) ?rb1017
        case yb1017 => (intro w hSw; (try dsimp only at hSw); go_simp; (try with_reducible rfl))
        simp only [Act.put]
        refine wpAnyZ_take (i := 8) (v := ?vb1018) rfl (by kernel_rfl) (by kernel_rfl) (by kernel_rfl) (by kernel_rfl) (fun _ _ _ h => h) (Or.inl ⟨by kernel_rfl, ?yb1018⟩) (by with_reducible assumption) ?rb1018
        case yb1018 => (intro w hSw; (try dsimp only at hSw); go_simp; (try with_reducible rfl))
        simp only [Act.put]
        refine wpAnyZ_take (i := 9) (v := ?vb1019) rfl (by kernel_rfl) (by kernel_rfl) (by kernel_rfl) (by kernel_rfl) (fun _ _ _ h => h) (Or.inl ⟨by kernel_rfl, ?yb1019⟩) (by with_reducible assumption) ?rb1019
        case yb1019 => (intro w hSw; (try dsimp only at hSw); go_simp; (try with_reducible rfl))
        simp only [Act.put]
        refine wpAnyZ_take (i := 10) (v := ?vb10110) rfl (by kernel_rfl) (by kernel_rfl) (by kernel_rfl) (by kernel_rfl) (fun _ _ _ h => h) (Or.inl ⟨by kernel_rfl, ?yb10110⟩) (by with_reducible assumption) ?rb10110
        case yb10110 => (intro w hSw; (try dsimp only at hSw); go_simp; (try with_reducible rfl))
        simp only [Act.put]
        refine wpAnyZ_take (i := 11) (v := ?vb10111) rfl (by kernel_rfl) (by kernel_rfl) (by kernel_rfl) (by kernel_rfl) (fun _ _ _ h => h) (Or.inl ⟨by kernel_rfl, ?yb10111⟩) (by with_reducible assumption) ?rb10111
        case yb10111 => (intro w hSw; (try dsimp only at hSw); go_simp; (try with_reducible rfl))
        simp only [Act.put]
        refine wpAnyZ_take (i := 12) (v := undef) rfl (by kernel_rfl) (by kernel_rfl) (by kernel_rfl) (by kernel_rfl) (fun _ _ _ h => h) (Or.inr ⟨by kernel_rfl, rfl⟩) (by with_reducible assumption) ?rb10112
        simp only [Act.put]
        refine wpAnyZ_take (i := 13) (v := undef) rfl (by kernel_rfl) (by kernel_rfl) (by kernel_rfl) (by kernel_rfl) (fun _ _ _ h => h) (Or.inr ⟨by kernel_rfl, rfl⟩) (by with_reducible assumption) ?rb10113
        simp only [Act.put]
        refine wpAnyZ_take (i := 14) (v := undef) rfl (by kernel_rfl) (by kernel_rfl) (by kernel_rfl) (by kernel_rfl) (fun _ _ _ h => h) (Or.inr ⟨by kernel_rfl, rfl⟩) (by with_reducible assumption) ?rb10114
        simp only [Act.put]
        refine wpAnyZ_take (i := 15) (v := undef) rfl (by kernel_rfl) (by kernel_rfl) (by kernel_rfl) (by kernel_rfl) (fun _ _ _ h => h) (Or.inr ⟨by kernel_rfl, rfl⟩) (by with_reducible assumption) ?rb10115
        simp only [Act.put]
        refine wpAnyZ_take (i := 16) (v := ?vb10116) rfl (by kernel_rfl) (by kernel_rfl) (by kernel_rfl) (by kernel_rfl) (fun _ _ _ h => h) (Or.inl ⟨by kernel_rfl, ?yb10116⟩) (by with_reducible assumption) ?rb10116
        case yb10116 => (intro w hSw; (try dsimp only at hSw); go_simp; (try with_reducible rfl))
        simp only [Act.put]
        refine wpAnyZ_take (i := 17) (v := ?vb10117) rfl (by kernel_rfl) (by kernel_rfl) (by kernel_rfl) (by kernel_rfl) (fun _ _ _ h => h) (Or.inl ⟨by kernel_rfl, ?yb10117⟩) (by with_reducible assumption) ?rb10117
        case yb10117 => (intro w hSw; (try dsimp only at hSw); go_simp; (try with_reducible rfl))
        simp only [Act.put]
        refine wpAnyZ_take (i := 18) (v := ?vb10118) rfl (by kernel_rfl) (by kernel_rfl) (by kernel_rfl) (by kernel_rfl) (fun _ _ _ h => h) (Or.inl ⟨by kernel_rfl, ?yb10118⟩) (by with_reducible assumption) ?rb10118
        case yb10118 => (intro w hSw; (try dsimp only at hSw); go_simp; (try with_reducible rfl))
        simp only [Act.put]
        refine wpAnyZ_take (i := 19) (v := ?vb10119) rfl (by kernel_rfl) (by kernel_rfl) (by kernel_rfl) (by kernel_rfl) (fun _ _ _ h => h) (Or.inl ⟨by kernel_rfl, ?yb10119⟩) (by with_reducible assumption) ?rb10119
        case yb10119 => (intro w hSw; (try dsimp only at hSw); go_simp; (try with_reducible rfl))
        simp only [Act.put]
        refine wpAnyZ_take (i := 20) (v := ?vb10120) rfl (by kernel_rfl) (by kernel_rfl) (by kernel_rfl) (by kernel_rfl) (fun _ _ _ h => h) (Or.inl ⟨by kernel_rfl, ?yb10120⟩) (by with_reducible assumption) ?rb10120
        case yb10120 => (intro w hSw; (try dsimp only at hSw); go_simp; (try with_reducible rfl))
        simp only [Act.put]
        refine wpAnyZ_take (i := 22) (v := ?vb10122) rfl (by kernel_rfl) (by kernel_rfl) (by kernel_rfl) (by kernel_rfl) (fun _ _ _ h => h) (Or.inl ⟨by kernel_rfl, ?yb10122⟩) (by with_reducible assumption) ?rb10122
        case yb10122 => (intro w hSw; (try dsimp only at hSw); go_simp; (try with_reducible rfl))
        simp only [Act.put]
        refine wpAnyZ_take (i := 23) (v := ?vb10123) rfl (by kernel_rfl) (by kernel_rfl) (by kernel_rfl) (by kernel_rfl) (fun _ _ _ h => h) (Or.inl ⟨by kernel_rfl, ?yb10123⟩) (by with_reducible assumption) ?rb10123
        case yb10123 => (intro w hSw; (try dsimp only at hSw); go_simp; (try with_reducible rfl))
        simp only [Act.put]
        refine wpAnyZ_step (i := 21) (by kernel_rfl) rfl ?_
        intro K21 hK21
        go_simp
        refine (iSame_r mx my _ _ _ _ _ _ _ _ F14.out.2.1 F15.out.2.1 hl14 hl15 HR.out).mono ?_
        rintro e w17 ⟨rfl, Hk⟩
        have G5 := Lib.hid (F5.out.below Hk.out)
        have G10 := Lib.hid (F10.out.below Hk.out)
        have G12 := Lib.hid (F12.out.below Hk.out)
        have G14 := Lib.hid (F14.out.below Hk.out)
        have G15 := Lib.hid (F15.out.below Hk.out)
        have G18 := Lib.hid (F18.out.below Hk.out)
        have B17 := Lib.hid (below_on B15.out Hk.out)
        clear Hk F5 F10 F12 F14 F15 F18
        have F5 := G5
        have F10 := G10
        have F12 := G12
        have F14 := G14
        have F15 := G15
        have F18 := G18
        clear G5 G10 G12 G14 G15 G18
        refine hK21.out _ _ ⟨F5.out.cells.1, F5.out.cells.2, F10.out.cells.1, F10.out.cells.2, F12.out.cells.1, F12.out.cells.2, F14.out.cells.1, F14.out.cells.2, F15.out.cells.1, F15.out.cells.2, F18.out.cells.1, F18.out.cells.2⟩ (fun hS' => ?_)
        clear hK21 hS
        have hS := hS'
        clear hS'
        (try simp only [Act.put])
        refine wpAnyZ_step (i := 24) (by kernel_rfl) rfl ?_
        intro K24 hK24
        go_simp
        refine (daM_r mx my _ _ _ _ _ _ _ _ F14.out.2.1 F15.out.2.1 hl14 hl15 HR.out).mono ?_
        rintro e w18 ⟨rfl, Hk⟩
        have G5 := Lib.hid (F5.out.below Hk.out)
        have G10 := Lib.hid (F10.out.below Hk.out)
        have G12 := Lib.hid (F12.out.below Hk.out)
        have G14 := Lib.hid (F14.out.below Hk.out)
        have G15 := Lib.hid (F15.out.below Hk.out)
        have G18 := Lib.hid (F18.out.below Hk.out)
        have B18 := Lib.hid (below_on B17.out Hk.out)
        clear Hk F5 F10 F12 F14 F15 F18
        have F5 := G5
        have F10 := G10
        have F12 := G12
        have F14 := G14
        have F15 := G15
        have F18 := G18
        clear G5 G10 G12 G14 G15 G18
        refine hK24.out _ _ ⟨F5.out.cells.1, F5.out.cells.2, F10.out.cells.1, F10.out.cells.2, F12.out.cells.1, F12.out.cells.2, F14.out.cells.1, F14.out.cells.2, F15.out.cells.1, F15.out.cells.2, F18.out.cells.1, F18.out.cells.2⟩ (fun hS' => ?_)
        clear hK24 hS
        have hS := hS'
        clear hS'
        (try simp only [Act.put])
        refine wpAnyZ_take (i := 25) (v := .bool true) rfl (by kernel_rfl) (by kernel_rfl) (by kernel_rfl) (by kernel_rfl) (fun _ _ _ h => h) (Or.inl ⟨by kernel_rfl, ?yb10125⟩) (by with_reducible assumption) ?rb10125
        case yb10125 => (intro w hSw; (try dsimp only at hSw); go_simp; (try with_reducible rfl); first | done | simp)
        simp only [Act.put]
        refine wpAnyZ_take (i := 26) (v := ?vb10126) rfl (by kernel_rfl) (by kernel_rfl) (by kernel_rfl) (by kernel_rfl) (fun _ _ _ h => h) (Or.inl ⟨by kernel_rfl, ?yb10126⟩) (by with_reducible assumption) ?rb10126
        case yb10126 => (intro w hSw; (try dsimp only at hSw); go_simp; (try with_reducible rfl))
        simp only [Act.put]
        refine wpAnyZ_take (i := 27) (v := ?vb10127) rfl (by kernel_rfl) (by kernel_rfl) (by kernel_rfl) (by kernel_rfl) (fun _ _ _ h => h) (Or.inl ⟨by kernel_rfl, ?yb10127⟩) (by with_reducible assumption) ?rb10127
        case yb10127 => (intro w hSw; (try dsimp only at hSw); go_simp; (try with_reducible rfl))
        simp only [Act.put]
        refine wpAnyZ_take (i := 28) (v := ?vb10128) rfl (by kernel_rfl) (by kernel_rfl) (by kernel_rfl) (by kernel_rfl) (fun _ _ _ h => h) (Or.inl ⟨by kernel_rfl, ?yb10128⟩) (by with_reducible assumption) ?rb10128
        case yb10128 => (intro w hSw; (try dsimp only at hSw); go_simp; (try with_reducible rfl))
        simp only [Act.put]
        refine wpAnyZ_take (i := 29) (v := ?vb10129) rfl (by kernel_rfl) (by kernel_rfl) (by kernel_rfl) (by kernel_rfl) (fun _ _ _ h => h) (Or.inl ⟨by kernel_rfl, ?yb10129⟩) (by with_reducible assumption) ?rb10129
        case yb10129 => (intro w hSw; (try dsimp only at hSw); go_simp; (try with_reducible rfl))
        simp only [Act.put]
        refine wpAnyZ_take (i := 30) (v := .bool true) rfl (by kernel_rfl) (by kernel_rfl) (by kernel_rfl) (by kernel_rfl) (fun _ _ _ h => h) (Or.inl ⟨by kernel_rfl, ?yb10130⟩) (by with_reducible assumption) ?rb10130
        case yb10130 => (intro w hSw; (try dsimp only at hSw); go_simp; (try with_reducible rfl); first | done | simp)
        simp only [Act.put]
        refine wpAnyZ_take (i := 31) (v := ?vb10131) rfl (by kernel_rfl) (by kernel_rfl) (by kernel_rfl) (by kernel_rfl) (fun _ _ _ h => h) (Or.inl ⟨by kernel_rfl, ?yb10131⟩) (by with_reducible assumption) ?rb10131
        case yb10131 => (intro w hSw; (try dsimp only at hSw); go_simp; (try with_reducible rfl))
        simp only [Act.put]
        refine wpAnyZ_take (i := 32) (v := ?vb10132) rfl (by kernel_rfl) (by kernel_rfl) (by kernel_rfl) (by kernel_rfl) (fun _ _ _ h => h) (Or.inl ⟨by kernel_rfl, ?yb10132⟩) (by with_reducible assumption) ?rb10132
        case yb10132 => (intro w hSw; (try dsimp only at hSw); go_simp; (try with_reducible rfl))
        simp only [Act.put]
        refine wpAnyZ_take (i := 33) (v := ?vb10133) rfl (by kernel_rfl) (by kernel_rfl) (by kernel_rfl) (by kernel_rfl) (fun _ _ _ h => h) (Or.inl ⟨by kernel_rfl, ?yb10133⟩) (by with_reducible assumption) ?rb10133
        case yb10133 => (intro w hSw; (try dsimp only at hSw); go_simp; (try with_reducible rfl))
        simp only [Act.put]
        refine wpAnyZ_take (i := 34) (v := ?vb10134) rfl (by kernel_rfl) (by kernel_rfl) (by kernel_rfl) (by kernel_rfl) (fun _ _ _ h => h) (Or.inl ⟨by kernel_rfl, ?yb10134⟩) (by with_reducible assumption) ?rb10134
        case yb10134 => (intro w hSw; (try dsimp only at hSw); go_simp; (try with_reducible rfl))
        simp only [Act.put]
        refine wpAnyZ_take (i := 35) (v := ?vb10135) rfl (by kernel_rfl) (by kernel_rfl) (by kernel_rfl) (by kernel_rfl) (fun _ _ _ h => h) (Or.inl ⟨by kernel_rfl, ?yb10135⟩) (by with_reducible assumption) ?rb10135
        case yb10135 => (intro w hSw; (try dsimp only at hSw); go_simp; (try with_reducible rfl))
        simp only [Act.put]
        refine wpAnyZ_take (i := 36) (v := ?vb10136) rfl (by kernel_rfl) (by kernel_rfl) (by kernel_rfl) (by kernel_rfl) (fun _ _ _ h => h) (Or.inl ⟨by kernel_rfl, ?yb10136⟩) (by with_reducible assumption) ?rb10136
        case yb10136 => (intro w hSw; (try dsimp only at hSw); go_simp; (try with_reducible rfl))
        simp only [Act.put]
        refine wpAnyZ_take (i := 37) (v := ?vb10137) rfl (by kernel_rfl) (by kernel_rfl) (by kernel_rfl) (by kernel_rfl) (fun _ _ _ h => h) (Or.inl ⟨by kernel_rfl, ?yb10137⟩) (by with_reducible assumption) ?rb10137
        case yb10137 => (intro w hSw; (try dsimp only at hSw); go_simp; (try with_reducible rfl))
        simp only [Act.put]
        refine wpAnyZ_step (i := 38) (by kernel_rfl) rfl ?_
        intro K38 hK38
        go_simp
        refine (da_r _ _ _ _ _ _ _ _ K18m.out F18.out.2.1 F5.out.2.1 hl5).mono ?_
        rintro e w19 ⟨rfl, Hk⟩
        have G5 := Lib.hid (F5.out.below Hk.out)
        have G10 := Lib.hid (F10.out.below Hk.out)
        have G12 := Lib.hid (F12.out.below Hk.out)
        have G14 := Lib.hid (F14.out.below Hk.out)
        have G15 := Lib.hid (F15.out.below Hk.out)
        have G18 := Lib.hid (F18.out.below Hk.out)
        have B19 := Lib.hid (below_on B18.out Hk.out)
        clear Hk F5 F10 F12 F14 F15 F18
        have F5 := G5
        have F10 := G10
        have F12 := G12
        have F14 := G14
        have F15 := G15
        have F18 := G18
        clear G5 G10 G12 G14 G15 G18
        refine hK38.out _ _ ⟨F5.out.cells.1, F5.out.cells.2, F10.out.cells.1, F10.out.cells.2, F12.out.cells.1, F12.out.cells.2, F14.out.cells.1, F14.out.cells.2, F15.out.cells.1, F15.out.cells.2, F18.out.cells.1, F18.out.cells.2⟩ (fun hS' => ?_)
        clear hK38 hS
        have hS := hS'
        clear hS'
        (try simp only [Act.put])
        refine wpAnyZ_take (i := 39) (v := ?vb10139) rfl (by kernel_rfl) (by kernel_rfl) (by kernel_rfl) (by kernel_rfl) (fun _ _ _ h => h) (Or.inl ⟨by kernel_rfl, ?yb10139⟩) (by with_reducible assumption) ?rb10139
        case yb10139 => (intro w hSw; (try dsimp only at hSw); go_simp; (try with_reducible rfl))
        simp only [Act.put]
        refine wpAnyZ_take (i := 40) (v := ?vb10140) rfl (by kernel_rfl) (by kernel_rfl) (by kernel_rfl) (by kernel_rfl) (fun _ _ _ h => h) (Or.inl ⟨by kernel_rfl, ?yb10140⟩) (by with_reducible assumption) ?rb10140
        case yb10140 => (intro w hSw; (try dsimp only at hSw); go_simp; (try with_reducible rfl))
        simp only [Act.put]
        refine wpAnyZ_last (i := 41) (by kernel_rfl) rfl (by kernel_rfl) ?_
        intro K41 hK41
        go_simp
        refine hK41.out _ _ ?_
        clear hK41
        go_wp2_with fail
        go_ret
        exact ⟨rfl, B19.out⟩
    · subst hk
      rcases Bool.eq_false_or_eq_true fine with hk | hk
      · subst hk
        go_upto_region 14 with fail
        refine wp_region_Z (S := fun w' => w'.cell? ⟨w1.heap.size, 0, none⟩ = some (.int .i64 m) ∧ w'.cell? ⟨w1.heap.size, 1, none⟩ = some (.slice A5 us.length cap5) ∧ w'.cell? ⟨w10.heap.size, 0, none⟩ = some (.int .i64 k10) ∧ w'.cell? ⟨w10.heap.size, 1, none⟩ = some (.slice A10 ps.length cap10) ∧ w'.cell? ⟨w11.heap.size, 0, none⟩ = some (.int .i64 k12) ∧ w'.cell? ⟨w11.heap.size, 1, none⟩ = some (.slice A12 ps.length cap12) ∧ w'.cell? ⟨w12.heap.size, 0, none⟩ = some (.int .i64 mx) ∧ w'.cell? ⟨w12.heap.size, 1, none⟩ = some (.slice A14 xs.length cap14) ∧ w'.cell? ⟨w12.heap.size + 1, 0, none⟩ = some (.int .i64 my) ∧ w'.cell? ⟨w12.heap.size + 1, 1, none⟩ = some (.slice A15 xy.length cap15) ∧ w'.cell? ⟨w14.heap.size, 0, none⟩ = some (.int .i64 k18) ∧ w'.cell? ⟨w14.heap.size, 1, none⟩ = some (.slice A18 vs.length cap18)) (by kernel_rfl) ⟨F5.out.cells.1, F5.out.cells.2, F10.out.cells.1, F10.out.cells.2, F12.out.cells.1, F12.out.cells.2, F14.out.cells.1, F14.out.cells.2, F15.out.cells.1, F15.out.cells.2, F18.out.cells.1, F18.out.cells.2⟩ (fun hS => ?_)
        have G5 : Hid (VA (w14.alloc (MO A18 cap18 k18 vs)).drew w1.heap.size A5 cap5 m us) := Lib.hid (F5.out.below (below_dr (Below.refl _ _) 1))
        have G10 : Hid (VA (w14.alloc (MO A18 cap18 k18 vs)).drew w10.heap.size A10 cap10 k10 ps) := Lib.hid (F10.out.below (below_dr (Below.refl _ _) 1))
        have G12 : Hid (VA (w14.alloc (MO A18 cap18 k18 vs)).drew w11.heap.size A12 cap12 k12 ps) := Lib.hid (F12.out.below (below_dr (Below.refl _ _) 1))
        have G14 : Hid (VA (w14.alloc (MO A18 cap18 k18 vs)).drew w12.heap.size A14 cap14 mx xs) := Lib.hid (F14.out.below (below_dr (Below.refl _ _) 1))
        have G15 : Hid (VA (w14.alloc (MO A18 cap18 k18 vs)).drew (w12.heap.size + 1) A15 cap15 my xy) := Lib.hid (F15.out.below (below_dr (Below.refl _ _) 1))
        have G18 : Hid (VA (w14.alloc (MO A18 cap18 k18 vs)).drew w14.heap.size A18 cap18 k18 vs) := Lib.hid (F18.out.below (below_dr (Below.refl _ _) 1))
        have B14d : Hid (Below w.heap.size w (w14.alloc (MO A18 cap18 k18 vs)).drew) := Lib.hid (below_dr B14a.out 1)
        clear F5 F10 F12 F14 F15 F18
        have F5 := G5
        have F10 := G10
        have F12 := G12
        have F14 := G14
        have F15 := G15
        have F18 := G18
        clear G5 G10 G12 G14 G15 G18
        refine wpAnyZ_take (i := 0) (v := ?vb0110) rfl (by kernel_rfl) (by kernel_rfl) (by kernel_rfl) (by kernel_rfl) (fun _ _ _ h => h) (Or.inl ⟨by kernel_rfl, ?yb0110⟩) (by with_reducible assumption) ?rb0110
        case yb0110 => (intro w hSw; (try dsimp only at hSw); go_simp; (try with_reducible rfl))
        simp only [Act.put, List.setIfInBounds_toArray]
        refine wpAnyZ_take (i := 1) (v := ?vb0111) rfl (by kernel_rfl) (by kernel_rfl) (by kernel_rfl) (by kernel_rfl) (fun _ _ _ h => h) (Or.inl ⟨by kernel_rfl, ?yb0111⟩) (by with_reducible assumption) ?rb0111
        case yb0111 => (intro w hSw; (try dsimp only at hSw); go_simp; (try with_reducible rfl))
        simp only [Act.put]
        refine wpAnyZ_step (i := 2) (by kernel_rfl) rfl ?_
        intro K2 hK2
        go_simp
        refine (da_r _ _ _ _ _ _ _ _ (K10.out.trans K12.out.symm) F10.out.2.1 F12.out.2.1 hl10).mono ?_
        rintro e w15 ⟨rfl, Hk⟩
        have G5 := Lib.hid (F5.out.below Hk.out)
        have G10 := Lib.hid (F10.out.below Hk.out)
        have G12 := Lib.hid (F12.out.below Hk.out)
        have G14 := Lib.hid (F14.out.below Hk.out)
        have G15 := Lib.hid (F15.out.below Hk.out)
        have G18 := Lib.hid (F18.out.below Hk.out)
        have B15 := Lib.hid (below_on B14d.out Hk.out)
        clear Hk F5 F10 F12 F14 F15 F18
        have F5 := G5
        have F10 := G10
        have F12 := G12
        have F14 := G14
        have F15 := G15
        have F18 := G18
        clear G5 G10 G12 G14 G15 G18
        refine hK2.out _ _ ⟨F5.out.cells.1, F5.out.cells.2, F10.out.cells.1, F10.out.cells.2, F12.out.cells.1, F12.out.cells.2, F14.out.cells.1, F14.out.cells.2, F15.out.cells.1, F15.out.cells.2, F18.out.cells.1, F18.out.cells.2⟩ (fun hS' => ?_)
        clear hK2 hS
        have hS := hS'
        clear hS'
        (try simp only [Act.put])
        refine wpAnyZ_take (i := 3) (v := ?vb0113) rfl (by kernel_rfl) (by kernel_rfl) (by kernel_rfl) (by kernel_rfl) (fun _ _ _ h => h) (Or.inl ⟨by kernel_rfl, ?yb0113⟩) (by with_reducible assumption) ?rb0113
        case yb0113 => (intro w hSw; (try dsimp only at hSw); go_simp; (try with_reducible rfl))
        simp only [Act.put]
        refine wpAnyZ_take (i := 4) (v := ?vb0114) rfl (by kernel_rfl) (by kernel_rfl) (by kernel_rfl) (by kernel_rfl) (fun _ _ _ h => h) (Or.inl ⟨by kernel_rfl, ?yb0114⟩) (by with_reducible assumption) ?rb0114
        case yb0114 => (intro w hSw; (try dsimp only at hSw); go_simp; (try with_reducible rfl))
        simp only [Act.put]
        refine wpAnyZ_take (i := 5) (v := ?vb0115) rfl (by kernel_rfl) (by kernel_rfl) (by kernel_rfl) (by kernel_rfl) (fun _ _ _ h => h) (Or.inl ⟨by kernel_rfl, ?yb0115⟩) (by with_reducible assumption) ?rb0115
        case yb0115 => (intro w hSw; (try dsimp only at hSw); go_simp; (try with_reducible rfl))
        simp only [Act.put]
        refine wpAnyZ_take (i := 6) (v := .bool true) rfl (by kernel_rfl) (by kernel_rfl) (by kernel_rfl) (by kernel_rfl) (fun _ _ _ h => h) (Or.inl ⟨by kernel_rfl, ?yb0116⟩) (by with_reducible assumption) ?rb0116
        case yb0116 => (intro w hSw; (try dsimp only at hSw); go_simp; (try with_reducible rfl); first | done | simp)
        simp only [Act.put]
        refine wpAnyZ_take (i := 7) (v := ?vb0117) rfl (by kernel_rfl) (by kernel_rfl) (by kernel_rfl) (by kernel_rfl) (fun _ _ _ h => h) (Or.inl ⟨by kernel_rfl, ?yb0117⟩) (by with_reducible assumption) ?rb0117
        case yb0117 => (intro w hSw; (try dsimp only at hSw); go_simp; (try with_reducible rfl))
        simp only [Act.put]
        refine wpAnyZ_take (i := 8) (v := ?vb0118) rfl (by kernel_rfl) (by kernel_rfl) (by kernel_rfl) (by kernel_rfl) (fun _ _ _ h => h) (Or.inl ⟨by kernel_rfl, ?yb0118⟩) (by with_reducible assumption) ?rb0118
        case yb0118 => (intro w hSw; (try dsimp only at hSw); go_simp; (try with_reducible rfl))
        simp only [Act.put]
        refine wpAnyZ_take (i := 9) (v := ?vb0119) rfl (by kernel_rfl) (by kernel_rfl) (by kernel_rfl) (by kernel_rfl) (fun _ _ _ h => h) (Or.inl ⟨by kernel_rfl, ?yb0119⟩) (by with_reducible assumption) ?rb0119
        case yb0119 => (intro w hSw; (try dsimp only at hSw); go_simp; (try with_reducible rfl))
        simp only [Act.put]
        refine wpAnyZ_take (i := 10) (v := ?vb01110) rfl (by kernel_rfl) (by kernel_rfl) (by kernel_rfl) (by kernel_rfl) (fun _ _ _ h => h) (Or.inl ⟨by kernel_rfl, ?yb01110⟩) (by with_reducible assumption) ?rb01110
        case yb01110 => (intro w hSw; (try dsimp only at hSw); go_simp; (try with_reducible rfl))
        simp only [Act.put]
        refine wpAnyZ_take (i := 11) (v := ?vb01111) rfl (by kernel_rfl) (by kernel_rfl) (by kernel_rfl) (by kernel_rfl) (fun _ _ _ h => h) (Or.inl ⟨by kernel_rfl, ?yb01111⟩) (by with_reducible assumption) ?rb01111
        case yb01111 => (intro w hSw; (try dsimp only at hSw); go_simp; (try with_reducible rfl))
        simp only [Act.put]
        refine wpAnyZ_take (i := 12) (v := ?vb01112) rfl (by kernel_rfl) (by kernel_rfl) (by kernel_rfl) (by kernel_rfl) (fun _ _ _ h => h) (Or.inl ⟨by kernel_rfl, ?yb01112⟩) (by with_reducible assumption) ?rb01112
        case yb01112 => (intro w hSw; (try dsimp only at hSw); go_simp; (try with_reducible rfl))
        simp only [Act.put]
        refine wpAnyZ_take (i := 14) (v := ?vb01114) rfl (by kernel_rfl) (by kernel_rfl) (by kernel_rfl) (by kernel_rfl) (fun _ _ _ h => h) (Or.inl ⟨by kernel_rfl, ?yb01114⟩) (by with_reducible assumption) ?rb01114
        case yb01114 => (intro w hSw; (try dsimp only at hSw); go_simp; (try with_reducible rfl))
        simp only [Act.put]
        refine wpAnyZ_step (i := 13) (by kernel_rfl) rfl ?_
        intro K13 hK13
        go_simp
        refine (iFmtM_t mp _ _ _ _ tx _ K10.out F10.out.2.1 hl10 (HPT.out (by trivial)) (tab10_below HT.out B15.out HG.out) (Nat.lt_of_lt_of_le HG.out B15.out.size)).mono ?_
        rintro e w16 ⟨rfl, Hk⟩
        have G5 := Lib.hid (F5.out.below Hk.out)
        have G10 := Lib.hid (F10.out.below Hk.out)
        have G12 := Lib.hid (F12.out.below Hk.out)
        have G14 := Lib.hid (F14.out.below Hk.out)
        have G15 := Lib.hid (F15.out.below Hk.out)
        have G18 := Lib.hid (F18.out.below Hk.out)
        have B16 := Lib.hid (below_on B15.out Hk.out)
        clear Hk F5 F10 F12 F14 F15 F18
        have F5 := G5
        have F10 := G10
        have F12 := G12
        have F14 := G14
        have F15 := G15
        have F18 := G18
        clear G5 G10 G12 G14 G15 G18
        refine hK13.out _ _ ⟨F5.out.cells.1, F5.out.cells.2, F10.out.cells.1, F10.out.cells.2, F12.out.cells.1, F12.out.cells.2, F14.out.cells.1, F14.out.cells.2, F15.out.cells.1, F15.out.cells.2, F18.out.cells.1, F18.out.cells.2⟩ (fun hS' => ?_)
        clear hK13 hS
        have hS := hS'
        clear hS'
        (try simp only [Act.put])
        refine wpAnyZ_take (i := 15) (v := .bool true) rfl (by kernel_rfl) (by kernel_rfl) (by kernel_rfl) (by kernel_rfl) (fun _ _ _ h => h) (Or.inl ⟨by kernel_rfl, ?yb01115⟩) (by with_reducible assumption) ?rb01115
        case yb01115 => (intro w hSw; (try dsimp only at hSw); go_simp; (try with_reducible rfl); first | done | simp)
        simp only [Act.put]
        refine wpAnyZ_take (i := 16) (v := ?vb01116) rfl (by kernel_rfl) (by kernel_rfl) (by kernel_rfl) (by kernel_rfl) (fun _ _ _ h => h) (Or.inl ⟨by kernel_rfl, ?yb01116⟩) (by with_reducible assumption) ?rb01116
        case yb01116 => (intro w hSw; (try dsimp only at hSw); go_simp; (try with_reducible rfl))
        simp only [Act.put]
        refine wpAnyZ_take (i := 17) (v := ?vb01117) rfl (by kernel_rfl) (by kernel_rfl) (by kernel_rfl) (by kernel_rfl) (fun _ _ _ h => h) (Or.inl ⟨by kernel_rfl, ?yb01117⟩) (by with_reducible assumption) ?rb01117
        case yb01117 => (intro w hSw; (try dsimp only at hSw); go_simp; (try with_reducible rfl))
        simp only [Act.put]
        refine wpAnyZ_take (i := 18) (v := ?vb01118) rfl (by kernel_rfl) (by kernel_rfl) (by kernel_rfl) (by kernel_rfl) (fun _ _ _ h => h) (Or.inl ⟨by kernel_rfl, ?yb01118⟩) (by with_reducible assumption) ?rb01118
        case yb01118 => (intro w hSw; (try dsimp only at hSw); go_simp; (try with_reducible rfl))
        simp only [Act.put]
        refine wpAnyZ_take (i := 19) (v := ?vb01119) rfl (by kernel_rfl) (by kernel_rfl) (by kernel_rfl) (by kernel_rfl) (fun _ _ _ h => h) (Or.inl ⟨by kernel_rfl, ?yb01119⟩) (by with_reducible assumption) ?rb01119
        case yb01119 => (intro w hSw; (try dsimp only at hSw); go_simp; (try with_reducible rfl))
        simp only [Act.put]
        refine wpAnyZ_take (i := 20) (v := ?vb01120) rfl (by kernel_rfl) (by kernel_rfl) (by kernel_rfl) (by kernel_rfl) (fun _ _ _ h => h) (Or.inl ⟨by kernel_rfl, ?yb01120⟩) (by with_reducible assumption) ?rb01120
        case yb01120 => (intro w hSw; (try dsimp only at hSw); go_simp; (try with_reducible rfl))
        simp only [Act.put]
        refine wpAnyZ_take (i := 22) (v := ?vb01122) rfl (by kernel_rfl) (by kernel_rfl) (by kernel_rfl) (by kernel_rfl) (fun _ _ _ h => h) (Or.inl ⟨by kernel_rfl, ?yb01122⟩) (by with_reducible assumption) ?rb01122
        case yb01122 => (intro w hSw; (try dsimp only at hSw); go_simp; (try with_reducible rfl))
        simp only [Act.put]
        refine wpAnyZ_take (i := 23) (v := ?vb01123) rfl (by kernel_rfl) (by kernel_rfl) (by kernel_rfl) (by kernel_rfl) (fun _ _ _ h => h) (Or.inl ⟨by kernel_rfl, ?yb01123⟩) (by with_reducible assumption) ?rb01123
        case yb01123 => (intro w hSw; (try dsimp only at hSw); go_simp; (try with_reducible rfl))
        simp only [Act.put]
        refine wpAnyZ_step (i := 21) (by kernel_rfl) rfl ?_
        intro K21 hK21
        go_simp
        refine (iSame_r mx my _ _ _ _ _ _ _ _ F14.out.2.1 F15.out.2.1 hl14 hl15 HR.out).mono ?_
        rintro e w17 ⟨rfl, Hk⟩
        have G5 := Lib.hid (F5.out.below Hk.out)
        have G10 := Lib.hid (F10.out.below Hk.out)
        have G12 := Lib.hid (F12.out.below Hk.out)
        have G14 := Lib.hid (F14.out.below Hk.out)
        have G15 := Lib.hid (F15.out.below Hk.out)
        have G18 := Lib.hid (F18.out.below Hk.out)
        have B17 := Lib.hid (below_on B16.out Hk.out)
        clear Hk F5 F10 F12 F14 F15 F18
        have F5 := G5
        have F10 := G10
        have F12 := G12
        have F14 := G14
        have F15 := G15
        have F18 := G18
        clear G5 G10 G12 G14 G15 G18
        refine hK21.out _ _ ⟨F5.out.cells.1, F5.out.cells.2, F10.out.cells.1, F10.out.cells.2, F12.out.cells.1, F12.out.cells.2, F14.out.cells.1, F14.out.cells.2, F15.out.cells.1, F15.out.cells.2, F18.out.cells.1, F18.out.cells.2⟩ (fun hS' => ?_)
        clear hK21 hS
        have hS := hS'
        clear hS'
        (try simp only [Act.put])
        refine wpAnyZ_step (i := 24) (by kernel_rfl) rfl ?_
        intro K24 hK24
        go_simp
        refine (daM_r mx my _ _ _ _ _ _ _ _ F14.out.2.1 F15.out.2.1 hl14 hl15 HR.out).mono ?_
        rintro e w18 ⟨rfl, Hk⟩
        have G5 := Lib.hid (F5.out.below Hk.out)
        have G10 := Lib.hid (F10.out.below Hk.out)
        have G12 := Lib.hid (F12.out.below Hk.out)
        have G14 := Lib.hid (F14.out.below Hk.out)
        have G15 := Lib.hid (F15.out.below Hk.out)
        have G18 := Lib.hid (F18.out.below Hk.out)
        have B18 := Lib.hid (below_on B17.out Hk.out)
        clear Hk F5 F10 F12 F14 F15 F18
        have F5 := G5
        have F10 := G10
        have F12 := G12
        have F14 := G14
        have F15 := G15
        have F18 := G18
        clear G5 G10 G12 G14 G15 G18
        refine hK24.out _ _ ⟨F5.out.cells.1, F5.out.cells.2, F10.out.cells.1, F10.out.cells.2, F12.out.cells.1, F12.out.cells.2, F14.out.cells.1, F14.out.cells.2, F15.out.cells.1, F15.out.cells.2, F18.out.cells.1, F18.out.cells.2⟩ (fun hS' => ?_)
        clear hK24 hS
        have hS := hS'
        clear hS'
        (try simp only [Act.put])
        refine wpAnyZ_take (i := 25) (v := .bool true) rfl (by kernel_rfl) (by kernel_rfl) (by kernel_rfl) (by kernel_rfl) (fun _ _ _ h => h) (Or.inl ⟨by kernel_rfl, ?yb01125⟩) (by with_reducible assumption) ?rb01125
        case yb01125 => (intro w hSw; (try dsimp only at hSw); go_simp; (try with_reducible rfl); first | done | simp)
        simp only [Act.put]
        refine wpAnyZ_take (i := 26) (v := ?vb01126) rfl (by kernel_rfl) (by kernel_rfl) (by kernel_rfl) (by kernel_rfl) (fun _ _ _ h => h) (Or.inl ⟨by kernel_rfl, ?yb01126⟩) (by with_reducible assumption) ?rb01126
        case yb01126 => (intro w hSw; (try dsimp only at hSw); go_simp; (try with_reducible rfl))
        simp only [Act.put]
        refine wpAnyZ_take (i := 27) (v := ?vb01127) rfl (by kernel_rfl) (by kernel_rfl) (by kernel_rfl) (by kernel_rfl) (fun _ _ _ h => h) (Or.inl ⟨by kernel_rfl, ?yb01127⟩) (by with_reducible assumption) ?rb01127
        case yb01127 => (intro w hSw; (try dsimp only at hSw); go_simp; (try with_reducible rfl))
        simp only [Act.put]
        refine wpAnyZ_take (i := 28) (v := ?vb01128) rfl (by kernel_rfl) (by kernel_rfl) (by kernel_rfl) (by kernel_rfl) (fun _ _ _ h => h) (Or.inl ⟨by kernel_rfl, ?yb01128⟩) (by with_reducible assumption) ?rb01128
        case yb01128 => (intro w hSw; (try dsimp only at hSw); go_simp; (try with_reducible rfl))
        simp only [Act.put]
        refine wpAnyZ_take (i := 29) (v := ?vb01129) rfl (by kernel_rfl) (by kernel_rfl) (by kernel_rfl) (by kernel_rfl) (fun _ _ _ h => h) (Or.inl ⟨by kernel_rfl, ?yb01129⟩) (by with_reducible assumption) ?rb01129
        case yb01129 => (intro w hSw; (try dsimp only at hSw); go_simp; (try with_reducible rfl))
        simp only [Act.put]
        refine wpAnyZ_take (i := 30) (v := .bool true) rfl (by kernel_rfl) (by kernel_rfl) (by kernel_rfl) (by kernel_rfl) (fun _ _ _ h => h) (Or.inl ⟨by kernel_rfl, ?yb01130⟩) (by with_reducible assumption) ?rb01130
        case yb01130 => (intro w hSw; (try dsimp only at hSw); go_simp; (try with_reducible rfl); first | done | simp)
        simp only [Act.put]
        refine wpAnyZ_take (i := 31) (v := ?vb01131) rfl (by kernel_rfl) (by kernel_rfl) (by kernel_rfl) (by kernel_rfl) (fun _ _ _ h => h) (Or.inl ⟨by kernel_rfl, ?yb01131⟩) (by with_reducible assumption) ?rb01131
        case yb01131 => (intro w hSw; (try dsimp only at hSw); go_simp; (try with_reducible rfl))
        simp only [Act.put]
        refine wpAnyZ_take (i := 32) (v := ?vb01132) rfl (by kernel_rfl) (by kernel_rfl) (by kernel_rfl) (by kernel_rfl) (fun _ _ _ h => h) (Or.inl ⟨by kernel_rfl, ?yb01132⟩) (by with_reducible assumption) ?rb01132
        case yb01132 => (intro w hSw; (try dsimp only at hSw); go_simp; (try with_reducible rfl))
        simp only [Act.put]
        refine wpAnyZ_take (i := 33) (v := ?vb01133) rfl (by kernel_rfl) (by kernel_rfl) (by kernel_rfl) (by kernel_rfl) (fun _ _ _ h => h) (Or.inl ⟨by kernel_rfl, ?yb01133⟩) (by with_reducible assumption) ?rb01133
        case yb01133 => (intro w hSw; (try dsimp only at hSw); go_simp; (try with_reducible rfl))
        simp only [Act.put]
        refine wpAnyZ_take (i := 34) (v := ?vb01134) rfl (by kernel_rfl) (by kernel_rfl) (by kernel_rfl) (by kernel_rfl) (fun _ _ _ h => h) (Or.inl ⟨by kernel_rfl, ?yb01134⟩) (by with_reducible assumption) ?rb01134
        case yb01134 => (intro w hSw; (try dsimp only at hSw); go_simp; (try with_reducible rfl))
        simp only [Act.put]
        refine wpAnyZ_take (i := 35) (v := ?vb01135) rfl (by kernel_rfl) (by kernel_rfl) (by kernel_rfl) (by kernel_rfl) (fun _ _ _ h => h) (Or.inl ⟨by kernel_rfl, ?yb01135⟩) (by with_reducible assumption) ?rb01135
        case yb01135 => (intro w hSw; (try dsimp only at hSw); go_simp; (try with_reducible rfl))
        simp only [Act.put]
        refine wpAnyZ_take (i := 36) (v := undef) rfl (by kernel_rfl) (by kernel_rfl) (by kernel_rfl) (by kernel_rfl) (fun _ _ _ h => h) (Or.inr ⟨by kernel_rfl, rfl⟩) (by with_reducible assumption) ?rb01136
        simp only [Act.put]
        refine wpAnyZ_take (i := 37) (v := undef) rfl (by kernel_rfl) (by kernel_rfl) (by kernel_rfl) (by kernel_rfl) (fun _ _ _ h => h) (Or.inr ⟨by kernel_rfl, rfl⟩) (by with_reducible assumption) ?rb01137
        simp only [Act.put]
        refine wpAnyZ_take (i := 38) (v := undef) rfl (by kernel_rfl) (by kernel_rfl) (by kernel_rfl) (by kernel_rfl) (fun _ _ _ h => h) (Or.inr ⟨by kernel_rfl, rfl⟩) (by with_reducible assumption) ?rb01138
        simp only [Act.put]
        refine wpAnyZ_take (i := 39) (v := ?vb01139) rfl (by kernel_rfl) (by kernel_rfl) (by kernel_rfl) (by kernel_rfl) (fun _ _ _ h => h) (Or.inl ⟨by kernel_rfl, ?yb01139⟩) (by with_reducible assumption) ?rb01139
        case yb01139 => (intro w hSw; (try dsimp only at hSw); go_simp; (try with_reducible rfl))
        simp only [Act.put]
        refine wpAnyZ_take (i := 40) (v := ?vb01140) rfl (by kernel_rfl) (by kernel_rfl) (by kernel_rfl) (by kernel_rfl) (fun _ _ _ h => h) (Or.inl ⟨by kernel_rfl, ?yb01140⟩) (by with_reducible assumption) ?rb01140
        case yb01140 => (intro w hSw; (try dsimp only at hSw); go_simp; (try with_reducible rfl))
        simp only [Act.put]
        refine wpAnyZ_last (i := 41) (by kernel_rfl) rfl (by kernel_rfl) ?_
        intro K41 hK41
        go_simp
        refine hK41.out _ _ ?_
        clear hK41
        go_wp2_with fail
        go_ret
        exact ⟨rfl, B18.out⟩
      · subst hk
        go_upto_region 14 with fail
        refine wp_region_Z (S := fun w' => w'.cell? ⟨w1.heap.size, 0, none⟩ = some (.int .i64 m) ∧ w'.cell? ⟨w1.heap.size, 1, none⟩ = some (.slice A5 us.length cap5) ∧ w'.cell? ⟨w10.heap.size, 0, none⟩ = some (.int .i64 k10) ∧ w'.cell? ⟨w10.heap.size, 1, none⟩ = some (.slice A10 ps.length cap10) ∧ w'.cell? ⟨w11.heap.size, 0, none⟩ = some (.int .i64 k12) ∧ w'.cell? ⟨w11.heap.size, 1, none⟩ = some (.slice A12 ps.length cap12) ∧ w'.cell? ⟨w12.heap.size, 0, none⟩ = some (.int .i64 mx) ∧ w'.cell? ⟨w12.heap.size, 1, none⟩ = some (.slice A14 xs.length cap14) ∧ w'.cell? ⟨w12.heap.size + 1, 0, none⟩ = some (.int .i64 my) ∧ w'.cell? ⟨w12.heap.size + 1, 1, none⟩ = some (.slice A15 xy.length cap15) ∧ w'.cell? ⟨w14.heap.size, 0, none⟩ = some (.int .i64 k18) ∧ w'.cell? ⟨w14.heap.size, 1, none⟩ = some (.slice A18 vs.length cap18)) (by kernel_rfl) ⟨F5.out.cells.1, F5.out.cells.2, F10.out.cells.1, F10.out.cells.2, F12.out.cells.1, F12.out.cells.2, F14.out.cells.1, F14.out.cells.2, F15.out.cells.1, F15.out.cells.2, F18.out.cells.1, F18.out.cells.2⟩ (fun hS => ?_)
        have G5 : Hid (VA (w14.alloc (MO A18 cap18 k18 vs)).drew w1.heap.size A5 cap5 m us) := Lib.hid (F5.out.below (below_dr (Below.refl _ _) 1))
        have G10 : Hid (VA (w14.alloc (MO A18 cap18 k18 vs)).drew w10.heap.size A10 cap10 k10 ps) := Lib.hid (F10.out.below (below_dr (Below.refl _ _) 1))
        have G12 : Hid (VA (w14.alloc (MO A18 cap18 k18 vs)).drew w11.heap.size A12 cap12 k12 ps) := Lib.hid (F12.out.below (below_dr (Below.refl _ _) 1))
        have G14 : Hid (VA (w14.alloc (MO A18 cap18 k18 vs)).drew w12.heap.size A14 cap14 mx xs) := Lib.hid (F14.out.below (below_dr (Below.refl _ _) 1))
        have G15 : Hid (VA (w14.alloc (MO A18 cap18 k18 vs)).drew (w12.heap.size + 1) A15 cap15 my xy) := Lib.hid (F15.out.below (below_dr (Below.refl _ _) 1))
        have G18 : Hid (VA (w14.alloc (MO A18 cap18 k18 vs)).drew w14.heap.size A18 cap18 k18 vs) := Lib.hid (F18.out.below (below_dr (Below.refl _ _) 1))
        have B14d : Hid (Below w.heap.size w (w14.alloc (MO A18 cap18 k18 vs)).drew) := Lib.hid (below_dr B14a.out 1)
        clear F5 F10 F12 F14 F15 F18
        have F5 := G5
        have F10 := G10
        have F12 := G12
        have F14 := G14
        have F15 := G15
        have F18 := G18
        clear G5 G10 G12 G14 G15 G18
        refine wpAnyZ_take (i := 0) (v := ?vb0010) rfl (by kernel_rfl) (by kernel_rfl) (by kernel_rfl) (by kernel_rfl) (fun _ _ _ h => h) (Or.inl ⟨by kernel_rfl, ?yb0010⟩) (by with_reducible assumption) ?rb0010
        case yb0010 => (intro w hSw; (try dsimp only at hSw); go_simp; (try with_reducible rfl))
        simp only [Act.put, List.setIfInBounds_toArray]
        refine wpAnyZ_take (i := 1) (v := ?vb0011) rfl (by kernel_rfl) (by kernel_rfl) (by kernel_rfl) (by kernel_rfl) (fun _ _ _ h => h) (Or.inl ⟨by kernel_rfl, ?yb0011⟩) (by with_reducible assumption) ?rb0011
        case yb0011 => (intro w hSw; (try dsimp only at hSw); go_simp; (try with_reducible rfl))
        simp only [Act.put]
        refine wpAnyZ_step (i := 2) (by kernel_rfl) rfl ?_
        intro K2 hK2
        go_simp
        refine (da_r _ _ _ _ _ _ _ _ (K10.out.trans K12.out.symm) F10.out.2.1 F12.out.2.1 hl10).mono ?_
        rintro e w15 ⟨rfl, Hk⟩
        have G5 := Lib.hid (F5.out.below Hk.out)
        have G10 := Lib.hid (F10.out.below Hk.out)
        have G12 := Lib.hid (F12.out.below Hk.out)
        have G14 := Lib.hid (F14.out.below Hk.out)
        have G15 := Lib.hid (F15.out.below Hk.out)
        have G18 := Lib.hid (F18.out.below Hk.out)
        have B15 := Lib.hid (below_on B14d.out Hk.out)
        clear Hk F5 F10 F12 F14 F15 F18
        have F5 := G5
        have F10 := G10
        have F12 := G12
        have F14 := G14
        have F15 := G15
        have F18 := G18
        clear G5 G10 G12 G14 G15 G18
        refine hK2.out _ _ ⟨F5.out.cells.1, F5.out.cells.2, F10.out.cells.1, F10.out.cells.2, F12.out.cells.1, F12.out.cells.2, F14.out.cells.1, F14.out.cells.2, F15.out.cells.1, F15.out.cells.2, F18.out.cells.1, F18.out.cells.2⟩ (fun hS' => ?_)
        clear hK2 hS
        have hS := hS'
        clear hS'
        (try simp only [Act.put])
        refine wpAnyZ_take (i := 3) (v := ?vb0013) rfl (by kernel_rfl) (by kernel_rfl) (by kernel_rfl) (by kernel_rfl) (fun _ _ _ h => h) (Or.inl ⟨by kernel_rfl, ?yb0013⟩) (by with_reducible assumption) ?rb0013
        case yb0013 => (intro w hSw; (try dsimp only at hSw); go_simp; (try with_reducible rfl))
        simp only [Act.put]
        refine wpAnyZ_take (i := 4) (v := ?vb0014) rfl (by kernel_rfl) (by kernel_rfl) (by kernel_rfl) (by kernel_rfl) (fun _ _ _ h => h) (Or.inl ⟨by kernel_rfl, ?yb0014⟩) (by with_reducible assumption) ?rb0014
        case yb0014 => (intro w hSw; (try dsimp only at hSw); go_simp; (try with_reducible rfl))
        simp only [Act.put]
        refine wpAnyZ_take (i := 5) (v := ?vb0015) rfl (by kernel_rfl) (by kernel_rfl) (by kernel_rfl) (by kernel_rfl) (fun _ _ _ h => h) (Or.inl ⟨by kernel_rfl, ?yb0015⟩) (by with_reducible assumption) ?rb0015
        case yb0015 => (intro w hSw; (try dsimp only at hSw); go_simp; (try with_reducible rfl))
        simp only [Act.put]
        refine wpAnyZ_take (i := 6) (v := .bool true) rfl (by kernel_rfl) (by kernel_rfl) (by kernel_rfl) (by kernel_rfl) (fun _ _ _ h => h) (Or.inl ⟨by kernel_rfl, ?yb0016⟩) (by with_reducible assumption) ?rb0016
        case yb0016 => (intro w hSw; (try dsimp only at hSw); go_simp; (try with_reducible rfl); first | done | simp)
        simp only [Act.put]
        refine wpAnyZ_take (i := 7) (v := ?vb0017) rfl (by kernel_rfl) (by kernel_rfl) (by kernel_rfl) (by kernel_rfl) (fun _ _ _ h => h) (Or.inl ⟨by kernel_rfl, ?yb0017⟩) (by with_reducible assumption) ?rb0017
        case yb0017 => (intro w hSw; (try dsimp only at hSw); go_simp; (try with_reducible rfl))
        simp only [Act.put]
        refine wpAnyZ_take (i := 8) (v := ?vb0018) rfl (by kernel_rfl) (by kernel_rfl) (by kernel_rfl) (by kernel_rfl) (fun _ _ _ h => h) (Or.inl ⟨by kernel_rfl, ?yb0018⟩) (by with_reducible assumption) ?rb0018
        case yb0018 => (intro w hSw; (try dsimp only at hSw); go_simp; (try with_reducible rfl))
        simp only [Act.put]
        refine wpAnyZ_take (i := 9) (v := ?vb0019) rfl (by kernel_rfl) (by kernel_rfl) (by kernel_rfl) (by kernel_rfl) (fun _ _ _ h => h) (Or.inl ⟨by kernel_rfl, ?yb0019⟩) (by with_reducible assumption) ?rb0019
        case yb0019 => (intro w hSw; (try dsimp only at hSw); go_simp; (try with_reducible rfl))
        simp only [Act.put]
        refine wpAnyZ_take (i := 10) (v := ?vb00110) rfl (by kernel_rfl) (by kernel_rfl) (by kernel_rfl) (by kernel_rfl) (fun _ _ _ h => h) (Or.inl ⟨by kernel_rfl, ?yb00110⟩) (by with_reducible assumption) ?rb00110
        case yb00110 => (intro w hSw; (try dsimp only at hSw); go_simp; (try with_reducible rfl))
        simp only [Act.put]
        refine wpAnyZ_take (i := 11) (v := ?vb00111) rfl (by kernel_rfl) (by kernel_rfl) (by kernel_rfl) (by kernel_rfl) (fun _ _ _ h => h) (Or.inl ⟨by kernel_rfl, ?yb00111⟩) (by with_reducible assumption) ?rb00111
        case yb00111 => (intro w hSw; (try dsimp only at hSw); go_simp; (try with_reducible rfl))
        simp only [Act.put]
        refine wpAnyZ_take (i := 12) (v := undef) rfl (by kernel_rfl) (by kernel_rfl) (by kernel_rfl) (by kernel_rfl) (fun _ _ _ h => h) (Or.inr ⟨by kernel_rfl, rfl⟩) (by with_reducible assumption) ?rb00112
        simp only [Act.put]
        refine wpAnyZ_take (i := 13) (v := undef) rfl (by kernel_rfl) (by kernel_rfl) (by kernel_rfl) (by kernel_rfl) (fun _ _ _ h => h) (Or.inr ⟨by kernel_rfl, rfl⟩) (by with_reducible assumption) ?rb00113
        simp only [Act.put]
        refine wpAnyZ_take (i := 14) (v := undef) rfl (by kernel_rfl) (by kernel_rfl) (by kernel_rfl) (by kernel_rfl) (fun _ _ _ h => h) (Or.inr ⟨by kernel_rfl, rfl⟩) (by with_reducible assumption) ?rb00114
        simp only [Act.put]
        refine wpAnyZ_take (i := 15) (v := undef) rfl (by kernel_rfl) (by kernel_rfl) (by kernel_rfl) (by kernel_rfl) (fun _ _ _ h => h) (Or.inr ⟨by kernel_rfl, rfl⟩) (by with_reducible assumption) ?rb00115
        simp only [Act.put]
        refine wpAnyZ_take (i := 16) (v := ?vb00116) rfl (by kernel_rfl) (by kernel_rfl) (by kernel_rfl) (by kernel_rfl) (fun _ _ _ h => h) (Or.inl ⟨by kernel_rfl, ?yb00116⟩) (by with_reducible assumption) ?rb00116
        case yb00116 => (intro w hSw; (try dsimp only at hSw); go_simp; (try with_reducible rfl))
        simp only [Act.put]
        refine wpAnyZ_take (i := 17) (v := ?vb00117) rfl (by kernel_rfl) (by kernel_rfl) (by kernel_rfl) (by kernel_rfl) (fun _ _ _ h => h) (Or.inl ⟨by kernel_rfl, ?yb00117⟩) (by with_reducible assumption) ?rb00117
        case yb00117 => (intro w hSw; (try dsimp only at hSw); go_simp; (try with_reducible rfl))
        simp only [Act.put]
        refine wpAnyZ_take (i := 18) (v := ?vb00118) rfl (by kernel_rfl) (by kernel_rfl) (by kernel_rfl) (by kernel_rfl) (fun _ _ _ h => h) (Or.inl ⟨by kernel_rfl, ?yb00118⟩) (by with_reducible assumption) ?rb00118
        case yb00118 => (intro w hSw; (try dsimp only at hSw); go_simp; (try with_reducible rfl))
        simp only [Act.put]
        refine wpAnyZ_take (i := 19) (v := ?vb00119) rfl (by kernel_rfl) (by kernel_rfl) (by kernel_rfl) (by kernel_rfl) (fun _ _ _ h => h) (Or.inl ⟨by kernel_rfl, ?yb00119⟩) (by with_reducible assumption) ?rb00119
        case yb00119 => (intro w hSw; (try dsimp only at hSw); go_simp; (try with_reducible rfl))
        simp only [Act.put]
        refine wpAnyZ_take (i := 20) (v := ?vb00120) rfl (by kernel_rfl) (by kernel_rfl) (by kernel_rfl) (by kernel_rfl) (fun _ _ _ h => h) (Or.inl ⟨by kernel_rfl, ?yb00120⟩) (by with_reducible assumption) ?rb00120
        case yb00120 => (intro w hSw; (try dsimp only at hSw); go_simp; (try with_reducible rfl))
        simp only [Act.put]
        refine wpAnyZ_take (i := 22) (v := ?vb00122) rfl (by kernel_rfl) (by kernel_rfl) (by kernel_rfl) (by kernel_rfl) (fun _ _ _ h => h) (Or.inl ⟨by kernel_rfl, ?yb00122⟩) (by with_reducible assumption) ?rb00122
        case yb00122 => (intro w hSw; (try dsimp only at hSw); go_simp; (try with_reducible rfl))
        simp only [Act.put]
        refine wpAnyZ_take (i := 23) (v := ?vb00123) rfl (by kernel_rfl) (by kernel_rfl) (by kernel_rfl) (by kernel_rfl) (fun _ _ _ h => h) (Or.inl ⟨by kernel_rfl, ?yb00123⟩) (by with_reducible assumption) ?rb00123
        case yb00123 => (intro w hSw; (try dsimp only at hSw); go_simp; (try with_reducible rfl))
        simp only [Act.put]
        refine wpAnyZ_step (i := 21) (by kernel_rfl) rfl ?_
        intro K21 hK21
        go_simp
        refine (iSame_r mx my _ _ _ _ _ _ _ _ F14.out.2.1 F15.out.2.1 hl14 hl15 HR.out).mono ?_
        rintro e w17 ⟨rfl, Hk⟩
        have G5 := Lib.hid (F5.out.below Hk.out)
        have G10 := Lib.hid (F10.out.below Hk.out)
        have G12 := Lib.hid (F12.out.below Hk.out)
        have G14 := Lib.hid (F14.out.below Hk.out)
        have G15 := Lib.hid (F15.out.below Hk.out)
        have G18 := Lib.hid (F18.out.below Hk.out)
        have B17 := Lib.hid (below_on B15.out Hk.out)
        clear Hk F5 F10 F12 F14 F15 F18
        have F5 := G5
        have F10 := G10
        have F12 := G12
        have F14 := G14
        have F15 := G15
        have F18 := G18
        clear G5 G10 G12 G14 G15 G18
        refine hK21.out _ _ ⟨F5.out.cells.1, F5.out.cells.2, F10.out.cells.1, F10.out.cells.2, F12.out.cells.1, F12.out.cells.2, F14.out.cells.1, F14.out.cells.2, F15.out.cells.1, F15.out.cells.2, F18.out.cells.1, F18.out.cells.2⟩ (fun hS' => ?_)
        clear hK21 hS
        have hS := hS'
        clear hS'
        (try simp only [Act.put])
        refine wpAnyZ_step (i := 24) (by kernel_rfl) rfl ?_
        intro K24 hK24
        go_simp
        refine (daM_r mx my _ _ _ _ _ _ _ _ F14.out.2.1 F15.out.2.1 hl14 hl15 HR.out).mono ?_
        rintro e w18 ⟨rfl, Hk⟩
        have G5 := Lib.hid (F5.out.below Hk.out)
        have G10 := Lib.hid (F10.out.below Hk.out)
        have G12 := Lib.hid (F12.out.below Hk.out)
        have G14 := Lib.hid (F14.out.below Hk.out)
        have G15 := Lib.hid (F15.out.below Hk.out)
        have G18 := Lib.hid (F18.out.below Hk.out)
        have B18 := Lib.hid (below_on B17.out Hk.out)
        clear Hk F5 F10 F12 F14 F15 F18
        have F5 := G5
        have F10 := G10
        have F12 := G12
        have F14 := G14
        have F15 := G15
        have F18 := G18
        clear G5 G10 G12 G14 G15 G18
        refine hK24.out _ _ ⟨F5.out.cells.1, F5.out.cells.2, F10.out.cells.1, F10.out.cells.2, F12.out.cells.1, F12.out.cells.2, F14.out.cells.1, F14.out.cells.2, F15.out.cells.1, F15.out.cells.2, F18.out.cells.1, F18.out.cells.2⟩ (fun hS' => ?_)
        clear hK24 hS
        have hS := hS'
        clear hS'
        (try simp only [Act.put])
        refine wpAnyZ_take (i := 25) (v := .bool true) rfl (by kernel_rfl) (by kernel_rfl) (by kernel_rfl) (by kernel_rfl) (fun _ _ _ h => h) (Or.inl ⟨by kernel_rfl, ?yb00125⟩) (by with_reducible assumption) ?rb00125
        case yb00125 => (intro w hSw; (try dsimp only at hSw); go_simp; (try with_reducible rfl); first | done | simp)
        simp only [Act.put]
        refine wpAnyZ_take (i := 26) (v := ?vb00126) rfl (by kernel_rfl) (by kernel_rfl) (by kernel_rfl) (by kernel_rfl) (fun _ _ _ h => h) (Or.inl ⟨by kernel_rfl, ?yb00126⟩) (by with_reducible assumption) ?rb00126
        case yb00126 => (intro w hSw; (try dsimp only at hSw); go_simp; (try with_reducible rfl))
        simp only [Act.put]
        refine wpAnyZ_take (i := 27) (v := ?vb00127) rfl (by kernel_rfl) (by kernel_rfl) (by kernel_rfl) (by kernel_rfl) (fun _ _ _ h => h) (Or.inl ⟨by kernel_rfl, ?yb00127⟩) (by with_reducible assumption) ?rb00127
        case yb00127 => (intro w hSw; (try dsimp only at hSw); go_simp; (try with_reducible rfl))
        simp only [Act.put]
        refine wpAnyZ_take (i := 28) (v := ?vb00128) rfl (by kernel_rfl) (by kernel_rfl) (by kernel_rfl) (by kernel_rfl) (fun _ _ _ h => h) (Or.inl ⟨by kernel_rfl, ?yb00128⟩) (by with_reducible assumption) ?rb00128
        case yb00128 => (intro w hSw; (try dsimp only at hSw); go_simp; (try with_reducible rfl))
        simp only [Act.put]
        refine wpAnyZ_take (i := 29) (v := ?vb00129) rfl (by kernel_rfl) (by kernel_rfl) (by kernel_rfl) (by kernel_rfl) (fun _ _ _ h => h) (Or.inl ⟨by kernel_rfl, ?yb00129⟩) (by with_reducible assumption) ?rb00129
        case yb00129 => (intro w hSw; (try dsimp only at hSw); go_simp; (try with_reducible rfl))
        simp only [Act.put]
        refine wpAnyZ_take (i := 30) (v := .bool true) rfl (by kernel_rfl) (by kernel_rfl) (by kernel_rfl) (by kernel_rfl) (fun _ _ _ h => h) (Or.inl ⟨by kernel_rfl, ?yb00130⟩) (by with_reducible assumption) ?rb00130
        case yb00130 => (intro w hSw; (try dsimp only at hSw); go_simp; (try with_reducible rfl); first | done | simp)
        simp only [Act.put]
        refine wpAnyZ_take (i := 31) (v := ?vb00131) rfl (by kernel_rfl) (by kernel_rfl) (by kernel_rfl) (by kernel_rfl) (fun _ _ _ h => h) (Or.inl ⟨by kernel_rfl, ?yb00131⟩) (by with_reducible assumption) ?rb00131
        case yb00131 => (intro w hSw; (try dsimp only at hSw); go_simp; (try with_reducible rfl))
        simp only [Act.put]
        refine wpAnyZ_take (i := 32) (v := ?vb00132) rfl (by kernel_rfl) (by kernel_rfl) (by kernel_rfl) (by kernel_rfl) (fun _ _ _ h => h) (Or.inl ⟨by kernel_rfl, ?yb00132⟩) (by with_reducible assumption) ?rb00132
        case yb00132 => (intro w hSw; (try dsimp only at hSw); go_simp; (try with_reducible rfl))
        simp only [Act.put]
        refine wpAnyZ_take (i := 33) (v := ?vb00133) rfl (by kernel_rfl) (by kernel_rfl) (by kernel_rfl) (by kernel_rfl) (fun _ _ _ h => h) (Or.inl ⟨by kernel_rfl, ?yb00133⟩) (by with_reducible assumption) ?rb00133
        case yb00133 => (intro w hSw; (try dsimp only at hSw); go_simp; (try with_reducible rfl))
        simp only [Act.put]
        refine wpAnyZ_take (i := 34) (v := ?vb00134) rfl (by kernel_rfl) (by kernel_rfl) (by kernel_rfl) (by kernel_rfl) (fun _ _ _ h => h) (Or.inl ⟨by kernel_rfl, ?yb00134⟩) (by with_reducible assumption) ?rb00134
        case yb00134 => (intro w hSw; (try dsimp only at hSw); go_simp; (try with_reducible rfl))
        simp only [Act.put]
        refine wpAnyZ_take (i := 35) (v := ?vb00135) rfl (by kernel_rfl) (by kernel_rfl) (by kernel_rfl) (by kernel_rfl) (fun _ _ _ h => h) (Or.inl ⟨by kernel_rfl, ?yb00135⟩) (by with_reducible assumption) ?rb00135
        case yb00135 => (intro w hSw; (try dsimp only at hSw); go_simp; (try with_reducible rfl))
        simp only [Act.put]
        refine wpAnyZ_take (i := 36) (v := undef) rfl (by kernel_rfl) (by kernel_rfl) (by kernel_rfl) (by kernel_rfl) (fun _ _ _ h => h) (Or.inr ⟨by kernel_rfl, rfl⟩) (by with_reducible assumption) ?rb00136
        simp only [Act.put]
        refine wpAnyZ_take (i := 37) (v := undef) rfl (by kernel_rfl) (by kernel_rfl) (by kernel_rfl) (by kernel_rfl) (fun _ _ _ h => h) (Or.inr ⟨by kernel_rfl, rfl⟩) (by with_reducible assumption) ?rb00137
        simp only [Act.put]
        refine wpAnyZ_take (i := 38) (v := undef) rfl (by kernel_rfl) (by kernel_rfl) (by kernel_rfl) (by kernel_rfl) (fun _ _ _ h => h) (Or.inr ⟨by kernel_rfl, rfl⟩) (by with_reducible assumption) ?rb00138
        simp only [Act.put]
        refine wpAnyZ_take (i := 39) (v := ?vb00139) rfl (by kernel_rfl) (by kernel_rfl) (by kernel_rfl) (by kernel_rfl) (fun _ _ _ h => h) (Or.inl ⟨by kernel_rfl, ?yb00139⟩) (by with_reducible assumption) ?rb00139
        case yb00139 => (intro w hSw; (try dsimp only at hSw); go_simp; (try with_reducible rfl))
        simp only [Act.put]
        refine wpAnyZ_take (i := 40) (v := ?vb00140) rfl (by kernel_rfl) (by kernel_rfl) (by kernel_rfl) (by kernel_rfl) (fun _ _ _ h => h) (Or.inl ⟨by kernel_rfl, ?yb00140⟩) (by with_reducible assumption) ?rb00140
        case yb00140 => (intro w hSw; (try dsimp only at hSw); go_simp; (try with_reducible rfl))
        simp only [Act.put]
        refine wpAnyZ_last (i := 41) (by kernel_rfl) rfl (by kernel_rfl) ?_
        intro K41 hK41
        go_simp
        refine hK41.out _ _ ?_
        clear hK41
        go_wp2_with fail
        go_ret
        exact ⟨rfl, B18.out⟩
end Go.Proofs.YtonnolpjfjbjpaaDoor
