/- The states that lie on a run, the program's: what is reached and what reaches a final have in common; in new memory; nothing that was there changes. No condition. -/
import Derived.Test.YtjnbdpejgbbfdaaReachS
import Derived.Test.YtjnbdpejgbbfdaaListA
namespace Go.Proofs.Ytjnbdpejgbbfdaa
open Go.RowKit
set_option maxHeartbeats 4000000
set_option maxRecDepth 100000
set_option linter.unusedVariables false

theorem IsRch.congr {E E' : Nat → Nat → Prop} {A S : VB} (h : IsRch E A S) (he : ∀ p q, E p q ↔ E' p q) : IsRch E' A S := by
  have e : E = E' := by funext p q; exact propext (he p q)
  rw [← e]; exact h
theorem costAt_has : ∀ (k : Nat) (ss : List StepD), ss.length = k → ∀ s ∈ ss, ∃ c, costAt ss s.fr s.le s.to_ = some c
  | 0, ss, hl, s, hs => by rw [List.eq_nil_of_length_eq_zero hl] at hs; cases hs
  | k + 1, ss, hl, s, hs => by
    have hne : ss ≠ [] := fun e => by rw [e] at hl; cases hl
    obtain ⟨r, t, rfl⟩ : ∃ r t, ss = r ++ [t] := ⟨_, _, (List.dropLast_concat_getLast hne).symm⟩
    rw [costAt_snoc]
    unfold updC
    by_cases e : s.fr = t.fr ∧ s.le.data = t.le.data ∧ s.to_ = t.to_
    · rw [if_pos e]; exact ⟨_, rfl⟩
    · rw [if_neg e]
      rcases List.mem_append.1 hs with h | h
      · exact costAt_has k r (by simpa using hl) s h
      · exfalso
        have : s = t := by simpa using h
        subst this
        exact e ⟨rfl, rfl, rfl⟩
theorem step_kwf {n : Nat} (n4 : n ≤ 4) {s : StepD} (h : stepOk n s = true) : kwf s.fr s.le s.to_ := by
  obtain ⟨i, k, c, h1, h2, h3, h4, h5, h6, hle⟩ := stepOk_in h
  exact ⟨wf_between (by omega) (by omega), (by rcases hle with h | h <;> rw [h] <;> decide), wf_between (by omega) (by omega)⟩
theorem edge_iff {n : Nat} (n4 : n ≤ 4) {ss : List StepD} (hok : ∀ s ∈ ss, stepOk n s = true) (p q : Nat) : edgeF (costAt ss) p q ↔ edge ss p q := by
  constructor
  · rintro ⟨l, c, _, hc⟩
    obtain ⟨s, hs, h1, _, h3, _⟩ := costAt_some _ rfl hc
    exact ⟨s, hs, h1, h3⟩
  · rintro ⟨s, hs, h1, h2⟩
    obtain ⟨c, hc⟩ := costAt_has _ ss rfl s hs
    have hk := step_kwf n4 (hok s hs)
    rw [h1, h2] at hc hk
    exact ⟨s.le, c, hk, hc⟩
theorem edge_back {n : Nat} (n4 : n ≤ 4) {ss : List StepD} (hok : ∀ s ∈ ss, stepOk n s = true) (p q : Nat) : edgeF (fun f l t => costAt ss t l f) p q ↔ edge (ss.map swS) p q := by
  constructor
  · rintro ⟨l, c, hk, hc⟩
    obtain ⟨s, hs, h1, h2⟩ := (edge_iff n4 hok q p).1 ⟨l, c, ⟨hk.2.2, hk.2.1, hk.1⟩, hc⟩
    exact ⟨swS s, List.mem_map_of_mem hs, h2, h1⟩
  · rintro ⟨s', hs', h1, h2⟩
    obtain ⟨s, hs, rfl⟩ := List.mem_map.1 hs'
    obtain ⟨l, c, hk, hc⟩ := (edge_iff n4 hok q p).2 ⟨s, hs, h2, h1⟩
    exact ⟨l, c, ⟨hk.2.2, hk.2.1, hk.1⟩, hc⟩
theorem stepOk_swS {n : Int} {s : StepD} (h : stepOk n s = true) : stepOk n (swS s) = true := by
  unfold stepOk swS at *
  simp only [Bool.and_eq_true] at h ⊢
  exact ⟨h.2.1, h.1, h.2.2⟩
theorem setL_in {xs : List Int} {n q : Nat} (hx : ∀ x ∈ xs, 0 ≤ x ∧ x < (n : Int)) (h : setL xs q = true) : q < n := by
  unfold setL hasB at h
  have := hx (q : Int) (by simpa using h)
  omega

/-- Which states are useful. -/
def useB (n : Nat) (xs ys : List Int) (ss : List StepD) : VB := fun q => rrounds ss (setL xs) n q && rrounds (ss.map swS) (setL ys) n q
def useR (m : Int) (xs ys : List Int) (ss : List StepD) : List Int := if autoOk m xs ys ss = true then selB (useB m.toNat xs ys ss) 4 else []
theorem useR_some {n : Nat} {xs ys : List Int} {ss : List StepD} (h : autoOk n xs ys ss = true) : useR n xs ys ss = selB (useB n xs ys ss) 4 := by unfold useR; rw [if_pos h]; rfl
theorem useR_none {m : Int} {xs ys : List Int} {ss : List StepD} (h : autoOk m xs ys ss = false) : useR m xs ys ss = [] := by unfold useR; rw [if_neg (by rw [h]; decide)]
theorem selB_congr {f g : Nat → Bool} : ∀ k, (∀ q, q < k → f q = g q) → selB f k = selB g k
  | 0, _ => rfl
  | k + 1, h => by
    unfold selB
    rw [selB_congr k (fun q hq => h q (by omega)), h k (by omega)]
theorem useR_len (m : Int) (xs ys : List Int) (ss : List StepD) : (useR m xs ys ss).length ≤ 4 := by
  unfold useR
  split
  · exact selB_len _ 4
  · exact Nat.zero_le _

theorem useful_any (n M cnt : Nat) (xs ys : List Int) (ss : List StepD) (w : World) (n4 : n ≤ 4) (hx : ∀ x ∈ xs, 0 ≤ x ∧ x < (n : Int)) (hy : ∀ y ∈ ys, 0 ≤ y ∧ y < (n : Int)) (hok : ∀ s ∈ ss, stepOk n s = true) (hM : CMap w M cnt (costAt ss)) (hc : cnt ≤ 1000) :
    Calls Try.prog 20 #[.agg #[.int .i64 n, .bool (hasB xs 0), .bool (hasB xs 1), .bool (hasB xs 2), .bool (hasB xs 3), .bool (hasB ys 0), .bool (hasB ys 1), .bool (hasB ys 2), .bool (hasB ys 3), .map (some M)]] w fun e w' => e = .returned (.agg (vecB (useB n xs ys ss))) ∧ Hid (Below w.heap.size w w') := by
  have MM := Lib.hid hM
  have hMw := hM.lt
  have hin : ∀ f l t c, costAt ss f l t = some c → 0 ≤ f ∧ f < 4 ∧ 0 ≤ t ∧ t < 4 := fun f l t c h => by
    have := costAt_in hok h
    omega
  have HIN := Lib.hid hin
  have hin2 : ∀ f l t c, (fun f l t => costAt ss t l f) f l t = some c → 0 ≤ f ∧ f < 4 ∧ 0 ≤ t ∧ t < 4 := fun f l t c h => by
    have := costAt_in hok h
    omega
  have HIN2 := Lib.hid hin2
  have HA : Hid (∀ q, setL xs q = true → q < 4) := fun q h => by have := setL_in hx h; omega
  have HB : Hid (∀ q, setL ys q = true → q < 4) := fun q h => by have := setL_in hy h; omega
  have H1 : Hid (∀ R, IsRch (edgeF (costAt ss)) (setL xs) R → R = rrounds ss (setL xs) n) := fun R h =>
    (h.congr (edge_iff n4 hok)).eq (rrounds_is n4 hok (fun q h => setL_in hx h))
  have hok2 : ∀ s ∈ ss.map swS, stepOk n s = true := fun s hs => by
    obtain ⟨s', hs', rfl⟩ := List.mem_map.1 hs
    exact stepOk_swS (hok s' hs')
  have H2 : Hid (∀ R, IsRch (edgeF (fun f l t => costAt ss t l f)) (setL ys) R → R = rrounds (ss.map swS) (setL ys) n) := fun R h =>
    (h.congr (edge_back n4 hok)).eq (rrounds_is n4 hok2 (fun q h => setL_in hy h))
  have HU : Hid ((fun q => rrounds ss (setL xs) n q && rrounds (ss.map swS) (setL ys) n q) = useB n xs ys ss) := rfl
  have K0 : Hid (Blk ((w.alloc (.cells #[.int .i64 n, .bool (hasB xs 0), .bool (hasB xs 1), .bool (hasB xs 2), .bool (hasB xs 3), .bool (hasB ys 0), .bool (hasB ys 1), .bool (hasB ys 2), .bool (hasB ys 3), .map (some M)] 46)).alloc (.cells #[.bool false, .bool false, .bool false, .bool false] 43)) w.heap.size 46 #[.int .i64 n, .bool (hasB xs 0), .bool (hasB xs 1), .bool (hasB xs 2), .bool (hasB xs 3), .bool (hasB ys 0), .bool (hasB ys 1), .bool (hasB ys 2), .bool (hasB ys 3), .map (some M)]) := (Blk.new w _ _).alloc _
  have K1 : Hid (Blk ((w.alloc (.cells #[.int .i64 n, .bool (hasB xs 0), .bool (hasB xs 1), .bool (hasB xs 2), .bool (hasB xs 3), .bool (hasB ys 0), .bool (hasB ys 1), .bool (hasB ys 2), .bool (hasB ys 3), .map (some M)] 46)).alloc (.cells #[.bool false, .bool false, .bool false, .bool false] 43)) (w.heap.size + 1) 43 (vecB (fun _ => false))) := blk_new (by simp)
  have B0 := Lib.hid (below_a2 w (.cells #[.int .i64 n, .bool (hasB xs 0), .bool (hasB xs 1), .bool (hasB xs 2), .bool (hasB xs 3), .bool (hasB ys 0), .bool (hasB ys 1), .bool (hasB ys 2), .bool (hasB ys 3), .map (some M)] 46) (.cells #[.bool false, .bool false, .bool false, .bool false] 43))
  have M0 : Hid (CMap ((w.alloc (.cells #[.int .i64 n, .bool (hasB xs 0), .bool (hasB xs 1), .bool (hasB xs 2), .bool (hasB xs 3), .bool (hasB ys 0), .bool (hasB ys 1), .bool (hasB ys 2), .bool (hasB ys 3), .map (some M)] 46)).alloc (.cells #[.bool false, .bool false, .bool false, .bool false] 43)) M cnt (costAt ss)) := MM.out.below B0.out
  clear hM hin hin2 hx hy hok hok2 MM
  go_enter Try.func20, Try.ntmps20
  go_wp2_with fail
  generalize (w.alloc (.cells #[.int .i64 n, .bool (hasB xs 0), .bool (hasB xs 1), .bool (hasB xs 2), .bool (hasB xs 3), .bool (hasB ys 0), .bool (hasB ys 1), .bool (hasB ys 2), .bool (hasB ys 3), .map (some M)] 46)).alloc (.cells #[.bool false, .bool false, .bool false, .bool false] 43) = w2 at K0 K1 B0 M0 ⊢
  obtain ⟨R, hR⟩ : ∃ R, R = w.heap.size + 1 := ⟨_, rfl⟩
  rw [← hR] at K1 ⊢
  have hRw : w.heap.size < R := by omega
  clear hR
  have KF : Hid (∀ w', Below w2.heap.size w2 w' → (Hid (Below w2.heap.size w2 w') ∧ w'.cell? ⟨w.heap.size, 0, none⟩ = some (.int .i64 n) ∧ w'.cell? ⟨w.heap.size, 1, none⟩ = some (.bool (hasB xs 0)) ∧ w'.cell? ⟨w.heap.size, 2, none⟩ = some (.bool (hasB xs 1)) ∧ w'.cell? ⟨w.heap.size, 3, none⟩ = some (.bool (hasB xs 2)) ∧ w'.cell? ⟨w.heap.size, 4, none⟩ = some (.bool (hasB xs 3)) ∧ w'.cell? ⟨w.heap.size, 5, none⟩ = some (.bool (hasB ys 0)) ∧ w'.cell? ⟨w.heap.size, 6, none⟩ = some (.bool (hasB ys 1)) ∧ w'.cell? ⟨w.heap.size, 7, none⟩ = some (.bool (hasB ys 2)) ∧ w'.cell? ⟨w.heap.size, 8, none⟩ = some (.bool (hasB ys 3)) ∧ w'.cell? ⟨w.heap.size, 9, none⟩ = some (.map (some M)))) := fun w' h => by
    have k := blk_b K0.out h
    exact ⟨h, k.cell 0, k.cell 1, k.cell 2, k.cell 3, k.cell 4, k.cell 5, k.cell 6, k.cell 7, k.cell 8, k.cell 9⟩
  have hS0 := KF.out w2.drew ((Below.refl _ _).drew)
  refine wp_region_Z (S := fun w' => Hid (Below w2.heap.size w2 w') ∧ w'.cell? ⟨w.heap.size, 0, none⟩ = some (.int .i64 n) ∧ w'.cell? ⟨w.heap.size, 1, none⟩ = some (.bool (hasB xs 0)) ∧ w'.cell? ⟨w.heap.size, 2, none⟩ = some (.bool (hasB xs 1)) ∧ w'.cell? ⟨w.heap.size, 3, none⟩ = some (.bool (hasB xs 2)) ∧ w'.cell? ⟨w.heap.size, 4, none⟩ = some (.bool (hasB xs 3)) ∧ w'.cell? ⟨w.heap.size, 5, none⟩ = some (.bool (hasB ys 0)) ∧ w'.cell? ⟨w.heap.size, 6, none⟩ = some (.bool (hasB ys 1)) ∧ w'.cell? ⟨w.heap.size, 7, none⟩ = some (.bool (hasB ys 2)) ∧ w'.cell? ⟨w.heap.size, 8, none⟩ = some (.bool (hasB ys 3)) ∧ w'.cell? ⟨w.heap.size, 9, none⟩ = some (.map (some M))) (by kernel_rfl) hS0 (fun hS => ?_)
  clear hS0
  refine wpAnyZ_take (i := 0) (v := ?vu0) rfl (by kernel_rfl) (by kernel_rfl) (by kernel_rfl) (by kernel_rfl) (fun _ _ _ h => h) (Or.inl ⟨by rfl, ?yu0⟩) (by with_reducible assumption) ?ru0
  case yu0 => (intro w hSw; (try dsimp only at hSw); go_simp; (try with_reducible rfl))
  simp only [Act.put, List.setIfInBounds_toArray]
  refine wpAnyZ_take (i := 2) (v := ?vu2) rfl (by kernel_rfl) (by kernel_rfl) (by kernel_rfl) (by kernel_rfl) (fun _ _ _ h => h) (Or.inl ⟨by rfl, ?yu2⟩) (by with_reducible assumption) ?ru2
  case yu2 => (intro w hSw; (try dsimp only at hSw); go_simp; (try with_reducible rfl))
  simp only [Act.put]
  refine wpAnyZ_step (i := 1) (by kernel_rfl) rfl ?_
  intro K1' hK1
  go_simp
  have D0 : Hid (Below w2.heap.size w2 w2.drew) := (Below.refl _ _).drew
  refine (reached_any n M cnt (setL xs) _ _ _ _ (costAt ss) _ HA.out HIN.out (M0.out.below D0.out)).mono ?_
  rintro e w4 ⟨R1, rfl, hR1, hb4⟩
  have D4 := Lib.hid (below_on D0.out hb4.out)
  have E1 : Hid (R1 = rrounds ss (setL xs) n) := H1.out R1 hR1.out
  clear hR1 hb4
  refine hK1.out _ _ (KF.out _ D4.out) (fun hS1 => ?_)
  clear hK1
  (try simp only [Act.put])
  refine wpAnyZ_step (i := 3) (by kernel_rfl) rfl ?_
  intro K2 hK2
  go_simp
  refine (mturned_any n M cnt _ _ _ _ _ _ _ _ (costAt ss) _ (M0.out.below D4.out) hc).mono ?_
  rintro e w5 ⟨M', rfl, hb5, hM', hmap⟩
  have D5 := Lib.hid (below_on D4.out hb5)
  have MM5 := Lib.hid hmap
  clear hb5 hmap
  refine hK2.out _ _ (KF.out _ D5.out) (fun hS2 => ?_)
  clear hK2 hS1
  (try simp only [Act.put])
  refine wpAnyZ_step (i := 4) (by kernel_rfl) rfl ?_
  intro K3 hK3
  go_simp
  refine (reached_any n M' cnt (setL ys) _ _ _ _ (fun f l t => costAt ss t l f) _ HB.out HIN2.out MM5.out).mono ?_
  rintro e w6 ⟨R2, rfl, hR2, hb6⟩
  have D6 := Lib.hid (below_on D5.out hb6.out)
  have E2 : Hid (R2 = rrounds (ss.map swS) (setL ys) n) := H2.out R2 hR2.out
  clear hR2 hb6 MM5
  refine hK3.out _ _ (KF.out _ D6.out) (fun hS3 => ?_)
  clear hK3 hS2
  (try simp only [Act.put])
  refine wpAnyZ_step (i := 5) (by kernel_rfl) rfl ?_
  intro K4 hK4
  go_simp
  refine (common_any R1 R2 _).mono ?_
  rintro e w7 ⟨rfl, hb7⟩
  have D7 := Lib.hid (below_on D6.out hb7)
  clear hb7
  refine hK4.out _ _ (KF.out _ D7.out) (fun hS4 => ?_)
  clear hK4 hS3
  (try simp only [Act.put])
  rw [E1.out, E2.out, HU.out]
  obtain ⟨u, hu⟩ : ∃ u, useB n xs ys ss = u := ⟨_, rfl⟩
  rw [hu]
  have HUU := Lib.hid hu
  have K7 := Lib.hid (blk_b K1.out D7.out)
  have B7 := Lib.hid (below_on B0.out D7.out)
  clear hu hS4 K1 B0 D0 D4 D5 D6 D7 E1 E2
  unfold vecB
  obtain ⟨d0, d1, d2, d3⟩ := four_cells K7.out
  obtain ⟨f0, f1, f2, f3⟩ := four_frozen K7.out
  refine wpAnyZ_last (i := 6) (by kernel_rfl) rfl (by kernel_rfl) ?_
  intro K5 hK5
  go_simp
  refine hK5.out _ _ ?_
  clear hK5
  have HF4 := ((((K7.out.set_ 0 (.bool (u 0))).set_ 1 (.bool (u 1))).set_ 2 (.bool (u 2))).set_ 3 (.bool (u 3)))
  go_wp2_with fail
  refine bodyPost_ret (results_1 rfl (gives_set (g := R) rfl HF4)) rfl ?_
  exact ⟨by rw [HUU.out]; rfl, B7.out.grown (four_grow_ _ _ _ _ _ _) B7.out.size (fun j hj => by cases hj; omega)⟩
/-- What a function leaves that answers with a list of numbers. -/
def UEnd (L : List Int) (w : World) (e : Ending) (w' : World) : Prop := ∃ x, e = .returned x ∧ w'.ownsRow w.heap.size 3 1 x L.length (L.map (Value.int .i64)) ∧ Below w.heap.size w w'
theorem UEnd.mk {L L' : List Int} {w w' : World} {x : Value} (hL : L = L') (ho : w'.ownsRow w.heap.size 3 1 x L'.length (L'.map (Value.int .i64))) (hb : Below w.heap.size w w') : UEnd L w (.returned x) w' := by
  subst hL; exact ⟨x, rfl, ho, hb⟩
theorem own_baseU {w : World} {base base' n : Nat} {t : TypeId} {x : Value} {xs : List Value} (h : w.ownsRow base t 1 x n xs) (hb : base' ≤ base) : w.ownsRow base' t 1 x n xs := by
  obtain ⟨h1, h2⟩ := h
  refine ⟨h1, ?_⟩
  rcases h2 with h2 | ⟨g, cap, cur, e, hg, rest⟩
  · exact Or.inl h2
  · exact Or.inr ⟨g, cap, cur, e, Nat.le_trans hb hg, rest⟩

theorem iUseful_any (m : Int) (A1 A2 A3 : Option Addr) (c1 c2 c3 : Nat) (xs ys : List Int) (ss : List StepD) (w : World) (hx : Ints w w.heap.size A1 xs) (hy : Ints w w.heap.size A2 ys) (hs : SRow w w.heap.size A3 ss) :
    Calls Try.prog 7 #[.agg #[.int .i64 m, .slice A1 xs.length c1, .slice A2 ys.length c2, .slice A3 ss.length c3]] w fun e w' => UEnd (useR m xs ys ss) w e w' := by
  have HX0 := Lib.hid (ints_al hx (.cells #[.int .i64 m, .slice A1 xs.length c1, .slice A2 ys.length c2, .slice A3 ss.length c3] 30))
  have HY0 := Lib.hid (ints_al hy (.cells #[.int .i64 m, .slice A1 xs.length c1, .slice A2 ys.length c2, .slice A3 ss.length c3] 30))
  have HS := Lib.hid (hs.al (.cells #[.int .i64 m, .slice A1 xs.length c1, .slice A2 ys.length c2, .slice A3 ss.length c3] 30))
  clear hx hy hs
  obtain ⟨b, hb⟩ : ∃ b, autoOk m xs ys ss = b := ⟨_, rfl⟩
  cases b
  · have HOK := Lib.hid hb
    have HR := Lib.hid (useR_none hb)
    clear hb
    go_enter Try.func7, Try.ntmps7
    go_wp2_with fail
    refine (machineOf_no _ _ _ _ _ _ _ _ _ _ _ HX0.out HY0.out HS.out HOK.out).mono ?_
    rintro e w1 ⟨rfl, hb1⟩
    have B1 := Lib.hid (below_on (below_a1 w _) hb1.out)
    clear hb1 HX0 HY0 HS
    go_wp2_with fail
    go_ret
    exact UEnd.mk HR.out (World.ownsRow_nil _ _ _ _) (below_al B1.out (Nat.le_refl _) _)
  · obtain ⟨n, rfl, n1, n4, hxi, hyi, hsl, hsi⟩ := auto_in hb
    have HR := Lib.hid (useR_some hb)
    have HOK := Lib.hid hb
    have HSI := Lib.hid hsi
    have HXI := Lib.hid hxi
    have HYI := Lib.hid hyi
    clear hb hsi hxi hyi
    go_enter Try.func7, Try.ntmps7
    go_wp2_with fail
    refine (machineOf_ok _ _ _ _ _ _ _ _ _ _ _ HX0.out HY0.out HS.out HOK.out).mono ?_
    rintro e w1 ⟨M, rfl, hM, hmap, hb1⟩
    have B1 := Lib.hid (below_on (below_a1 w _) hb1.out)
    have B2 := Lib.hid (below_al B1.out (Nat.le_refl _) (.cells #[.int .i64 n, .bool (hasB xs 0), .bool (hasB xs 1), .bool (hasB xs 2), .bool (hasB xs 3), .bool (hasB ys 0), .bool (hasB ys 1), .bool (hasB ys 2), .bool (hasB ys 3), .map (some M)] 46))
    have M2 := Lib.hid (hmap.out.kept (World.grownBy_alloc w1 (.cells #[.int .i64 n, .bool (hasB xs 0), .bool (hasB xs 1), .bool (hasB xs 2), .bool (hasB xs 3), .bool (hasB ys 0), .bool (hasB ys 1), .bool (hasB ys 2), .bool (hasB ys 3), .map (some M)] 46) none) (by simp))
    clear hb1 HX0 HY0 HS hmap hM
    go_wp2_with fail
    refine (useful_any n M _ xs ys ss _ n4 HXI.out HYI.out HSI.out M2.out (by omega)).mono ?_
    rintro e w3 ⟨rfl, hb3⟩
    have B3 := Lib.hid (below_on B2.out hb3.out)
    obtain ⟨u, hu⟩ : ∃ u, useB n xs ys ss = u := ⟨_, rfl⟩
    have HU := Lib.hid hu
    rw [hu]
    unfold vecB
    clear hb3 B1 B2 M2 hu
    go_wp2_with fail
    refine (list_any (u 0) (u 1) (u 2) (u 3) _).mono ?_
    rintro e w4 ⟨x, rfl, ho, hb4⟩
    have eL : selB (bAt (u 0) (u 1) (u 2) (u 3)) 4 = selB (useB n xs ys ss) 4 := by
      rw [HU.out]
      refine selB_congr 4 (fun q hq => ?_)
      match q, hq with
      | 0, _ => rfl
      | 1, _ => rfl
      | 2, _ => rfl
      | 3, _ => rfl
    rw [eL] at ho
    have HO := Lib.hid (own_baseU ho.out B3.out.size)
    have B4 := Lib.hid (below_on B3.out hb4.out)
    clear ho hb4 eL B3
    go_wp2_with fail
    go_ret
    exact UEnd.mk HR.out HO.out B4.out
end Go.Proofs.Ytjnbdpejgbbfdaa
