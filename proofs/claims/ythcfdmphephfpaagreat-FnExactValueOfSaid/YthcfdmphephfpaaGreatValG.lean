/- The value of an expression and its grade: the model's face, and the grades of both. Condition: the text is no longer than 2^20. -/
import Derived.Test.YthcfdmphephfpaaGreatValS
namespace Go.Proofs.YthcfdmphephfpaaGreat
open Go.RowKit
set_option maxHeartbeats 4000000
set_option maxRecDepth 100000
set_option linter.unusedVariables false

theorem valid_parts_ {l : List UInt8} (h : validB l = true) : ∃ t : Tx, ∃ y, l = t.text ∧ t.good = true ∧ t.ex none = some y ∧ nodeF l = some y := by
  unfold validB at h
  cases hp : parseT l with
  | none => rw [hp] at h; cases h
  | some t =>
    obtain ⟨e, hg, hs, _⟩ := parse_spec hp
    obtain ⟨y, hy⟩ := Tx.ex_none hs hg
    exact ⟨t, y, e, hg, hy, by rw [node_parse, hp]; exact hy⟩
theorem sValue_any (m : Int) (A1 A2 A3 : Option Addr) (c1 c2 c3 : Nat) (xs ys : List Int) (ss : List StepD) (l : ByteArray) (hll : l.size ≤ 1048576) (w : World) (hx : Ints w w.heap.size A1 xs) (hy : Ints w w.heap.size A2 ys) (hs : SRow w w.heap.size A3 ss) :
    Calls Tryz.prog 6 #[.agg #[.int .i64 m, .slice A1 xs.length c1, .slice A2 ys.length c2, .slice A3 ss.length c3], .string l] w fun e w' => MEnd (valueR m xs ys ss l.data.toList) w e w' := by
  have HX0 := Lib.hid (ints_al (ints_al hx (.cells #[.int .i64 m, .slice A1 xs.length c1, .slice A2 ys.length c2, .slice A3 ss.length c3] 33)) (.cells #[.int .i64 0, .slice none 0 0] 28))
  have HY0 := Lib.hid (ints_al (ints_al hy (.cells #[.int .i64 m, .slice A1 xs.length c1, .slice A2 ys.length c2, .slice A3 ss.length c3] 33)) (.cells #[.int .i64 0, .slice none 0 0] 28))
  have HS := Lib.hid ((hs.al (.cells #[.int .i64 m, .slice A1 xs.length c1, .slice A2 ys.length c2, .slice A3 ss.length c3] 33)).al (.cells #[.int .i64 0, .slice none 0 0] 28))
  have K0 : Hid (Blk ((w.alloc (.cells #[.int .i64 m, .slice A1 xs.length c1, .slice A2 ys.length c2, .slice A3 ss.length c3] 33)).alloc (.cells #[.int .i64 0, .slice none 0 0] 28)) w.heap.size 33 #[.int .i64 m, .slice A1 xs.length c1, .slice A2 ys.length c2, .slice A3 ss.length c3]) := (Blk.new _ _ _).alloc _
  have R0 : Hid (Blk ((w.alloc (.cells #[.int .i64 m, .slice A1 xs.length c1, .slice A2 ys.length c2, .slice A3 ss.length c3] 33)).alloc (.cells #[.int .i64 0, .slice none 0 0] 28)) (w.heap.size + 1) 28 #[.int .i64 0, .slice none 0 0]) := blk_new (by simp)
  have B0 := Lib.hid (below_a2 w (.cells #[.int .i64 m, .slice A1 xs.length c1, .slice A2 ys.length c2, .slice A3 ss.length c3] 33) (.cells #[.int .i64 0, .slice none 0 0] 28))
  have hs0 : w.heap.size + 1 < ((w.alloc (.cells #[.int .i64 m, .slice A1 xs.length c1, .slice A2 ys.length c2, .slice A3 ss.length c3] 33)).alloc (.cells #[.int .i64 0, .slice none 0 0] 28)).heap.size := by simp
  have HS0 := Lib.hid hs0
  clear hx hy hs hs0
  obtain ⟨ok, hok⟩ : ∃ ok, autoOk m xs ys ss = ok := ⟨_, rfl⟩
  have HOK := Lib.hid hok
  go_enter Tryz.func6, Tryz.ntmps6
  go_wp2_with fail
  refine (sAutomatonValid_is _ _ _ _ _ _ _ _ _ _ ok _ HX0.out HY0.out HS.out HOK.out).mono ?_
  rintro e w1 ⟨rfl, hb1⟩
  have K1 := Lib.hid (blk_b K0.out hb1.out)
  have R1 := Lib.hid (blk_b R0.out hb1.out)
  have B1 := Lib.hid (below_on B0.out hb1.out)
  have HS1 : Hid (w.heap.size + 1 < w1.heap.size) := Nat.lt_of_lt_of_le HS0.out hb1.out.size
  have X1 := Lib.hid (HS.out.on hb1.out)
  clear hb1 HX0 HY0 HS K0 R0 B0
  cases ok with
  | false =>
    have HR := Lib.hid (valueR_auto (l := l.data.toList) hok)
    clear hok
    obtain ⟨d0, d1⟩ := two_cells R1.out
    obtain ⟨f0, f1⟩ := two_frozen R1.out
    go_wp2_with fail
    refine bodyPost_ret (results_2 rfl (gives_mat (g := w.heap.size + 1) rfl ((R1.out.set_ 0 _).set_ 1 _)) (.tmp rfl)) rfl ?_
    exact MEnd.none_ HR.out ((B1.out.setCell (p := ⟨_, 0, none⟩) (Nat.le_succ _) _).setCell (p := ⟨_, 1, none⟩) (Nat.le_succ _) _)
  | true =>
    obtain ⟨n, rfl, n1, n2, _, _, _, hsi⟩ := auto_in hok
    cases hv : validB l.data.toList with
    | false =>
      have HV := Lib.hid hv
      have HR : Hid (valueR (n : Int) xs ys ss l.data.toList = none) := by
        refine valueR_node ?_
        rw [valid_node] at hv
        cases hn : nodeF l.data.toList with
        | none => rfl
        | some x => rw [hn] at hv; cases hv
      clear hok hv
      obtain ⟨d0, d1⟩ := two_cells R1.out
      obtain ⟨f0, f1⟩ := two_frozen R1.out
      go_wp2_with fail
      refine (sValid_is l false _ hll HV.out).mono ?_
      rintro e w2 ⟨rfl, rfl⟩
      go_wp2_with fail
      refine bodyPost_ret (results_2 rfl (gives_mat (g := w.heap.size + 1) rfl ((R1.out.set_ 0 _).set_ 1 _)) (.tmp rfl)) rfl ?_
      exact MEnd.none_ HR.out ((B1.out.setCell (p := ⟨_, 0, none⟩) (Nat.le_succ _) _).setCell (p := ⟨_, 1, none⟩) (Nat.le_succ _) _)
    | true =>
      have HV := Lib.hid hv
      obtain ⟨t, y, ht, hg, hy, hn⟩ := valid_parts_ hv
      have HR : Hid (valueR (n : Int) xs ys ss l.data.toList = (valT n ss (gunitL n) t).map fun a => ((n : Int), a)) := by
        show _ = _
        rw [valueR_in hok hn, ex_val n1 n2 hsi t none y hy]; rfl
      have hl120 : l.size ≤ 120 := by rw [size_len]; exact valid_len hv
      have hc := fun x1 x2 c1 c2 c3 A1 A2 A3 w => val_all n ss n1 n2 hsi (t.text.length + 1) t l x1 x2 c1 c2 c3 A1 A2 A3 w hg (Nat.lt_succ_self _) ht hl120
      have HC := Lib.hid hc
      clear hok hv ht hg hy hn hc hsi
      obtain ⟨k0, k1, k2, k3⟩ := four_cells K1.out
      go_wp2_with fail
      refine (sValid_is l true _ hll HV.out).mono ?_
      rintro e w2 ⟨rfl, rfl⟩
      go_wp2_with fail
      refine (HC.out xs.length ys.length c1 c2 c3 A1 A2 A3 _ X1.out).mono ?_
      intro e w3 hE
      obtain ⟨p, hp⟩ : ∃ p, p = ((valT n ss (gunitL n) t).map fun a => ((n : Int), a)).getD (0, []) := ⟨_, rfl⟩
      obtain ⟨A, cap, rfl, ho3, hl3, hb3⟩ := mend_open hE hp.symm
      obtain ⟨b, hbs⟩ : ∃ b, b = ((valT n ss (gunitL n) t).map fun a => ((n : Int), a)).isSome := ⟨_, rfl⟩
      rw [← hbs]
      have HP : Hid ((valueR (n : Int) xs ys ss l.data.toList).getD (0, []) = p ∧ (valueR (n : Int) xs ys ss l.data.toList).isSome = b) := ⟨by rw [HR.out, hp], by rw [HR.out, hbs]⟩
      have R3 := Lib.hid (blk_b R1.out hb3.out)
      have B3 := Lib.hid (below_on B1.out hb3.out)
      clear hE hp hbs hb3 R1 B1 K1 k0 k1 k2 k3
      obtain ⟨d0, d1⟩ := two_cells R3.out
      obtain ⟨f0, f1⟩ := two_frozen R3.out
      go_wp2_with fail
      have HF := mat_fin (w := w) (m := p.1) R3.out ho3.out HS1.out (by omega) B3.out hl3
      refine bodyPost_ret (results_2 rfl (gives_mat (g := w.heap.size + 1) rfl HF.1) (.tmp rfl)) rfl ?_
      exact mend_of HP.out.2 (by rw [HP.out.1]; exact HF.2.1) HF.2.2

/-! The grade. -/
def gradeR (m : Int) (xs ys : List Int) (ss : List StepD) (l : List UInt8) : Int := match valueR m xs ys ss l with
  | some (k, a) => betR m xs ys ss k a
  | none => -1
theorem valueR_some {m : Int} {xs ys : List Int} {ss : List StepD} {l : List UInt8} {k : Int} {a : List Int} (h : valueR m xs ys ss l = some (k, a)) : ∃ n : Nat, m = (n : Int) ∧ k = (n : Int) ∧ autoOk (n : Int) xs ys ss = true ∧ GV n a := by
  unfold valueR at h
  split at h
  · rename_i hok
    obtain ⟨n, rfl, n1, n2, _, _, _, hsi⟩ := auto_in hok
    cases hn : nodeF l with
    | none => rw [hn] at h; cases h
    | some x =>
      rw [hn] at h
      simp only [Option.bind_some] at h
      cases hv : valueE n ss x with
      | none =>
        have : valueE (n : Int).toNat ss x = none := hv
        rw [this] at h; cases h
      | some u =>
        have : valueE (n : Int).toNat ss x = some u := hv
        rw [this] at h
        simp only [Option.map_some, Option.some.injEq, Prod.mk.injEq] at h
        obtain ⟨rfl, rfl⟩ := h
        exact ⟨n, rfl, rfl, hok, value_GV n1 n2 hsi x u hv⟩
  · cases h
theorem iGrade_any (m : Int) (A1 A2 A3 : Option Addr) (c1 c2 c3 : Nat) (xs ys : List Int) (ss : List StepD) (l : ByteArray) (w : World) (hx : Ints w w.heap.size A1 xs) (hy : Ints w w.heap.size A2 ys) (hs : SRow w w.heap.size A3 ss) :
    Calls Tryz.prog 15 #[.agg #[.int .i64 m, .slice A1 xs.length c1, .slice A2 ys.length c2, .slice A3 ss.length c3], .string l] w fun e w' => e = .returned (.int .i64 (gradeR m xs ys ss l.data.toList)) ∧ Hid (Below w.heap.size w w') := by
  have HX0 := Lib.hid (ints_al hx (.cells #[.int .i64 m, .slice A1 xs.length c1, .slice A2 ys.length c2, .slice A3 ss.length c3] 33))
  have HY0 := Lib.hid (ints_al hy (.cells #[.int .i64 m, .slice A1 xs.length c1, .slice A2 ys.length c2, .slice A3 ss.length c3] 33))
  have HS := Lib.hid (hs.al (.cells #[.int .i64 m, .slice A1 xs.length c1, .slice A2 ys.length c2, .slice A3 ss.length c3] 33))
  have K0 := Lib.hid (Blk.new w 33 #[.int .i64 m, .slice A1 xs.length c1, .slice A2 ys.length c2, .slice A3 ss.length c3])
  have B0 := Lib.hid (below_a1 w (.cells #[.int .i64 m, .slice A1 xs.length c1, .slice A2 ys.length c2, .slice A3 ss.length c3] 33))
  clear hx hy hs
  go_enter Tryz.func15, Tryz.ntmps15
  go_wp2_with fail
  refine (iValue_any _ _ _ _ _ _ _ _ _ _ _ _ HX0.out HY0.out HS.out).mono ?_
  intro e w1 hE
  obtain ⟨r, hr⟩ : ∃ r, valueR m xs ys ss l.data.toList = r := ⟨_, rfl⟩
  rw [hr] at hE
  cases r with
  | none =>
    have HR : Hid (gradeR m xs ys ss l.data.toList = -1) := by show _ = _; unfold gradeR; rw [hr]
    obtain ⟨A, cap, rfl, ho, hl, hb⟩ := mend_open (p := (0, [])) hE rfl
    have B1 := Lib.hid (below_on B0.out hb.out)
    clear hE hr hb HX0 HY0 HS
    simp only [Option.isSome_none]
    go_wp2_with fail
    go_ret
    exact ⟨by rw [HR.out]; rfl, below_al B1.out (Nat.le_refl _) _⟩
  | some q =>
    obtain ⟨k, a⟩ := q
    have HR : Hid (betR m xs ys ss k a = gradeR m xs ys ss l.data.toList) := by show _ = _; unfold gradeR; rw [hr]
    obtain ⟨A, cap, rfl, ho, hl, hb⟩ := mend_open (p := (k, a)) hE rfl
    dsimp only at ho hl
    have B1 := Lib.hid (below_on B0.out hb.out)
    have K1 := blk_b K0.out hb.out
    have k0 := fun o => (K1.alloc o).cell 0
    have k1 := fun o => (K1.alloc o).cell 1
    have k2 := fun o => (K1.alloc o).cell 2
    have k3 := fun o => (K1.alloc o).cell 3
    dsimp at k0 k1 k2 k3
    have X1 := Lib.hid (ints_al ((HX0.out.below hb.out).more hb.out.size) (.cells #[.int .i64 k, .slice A a.length cap] 28))
    have Y1 := Lib.hid (ints_al ((HY0.out.below hb.out).more hb.out.size) (.cells #[.int .i64 k, .slice A a.length cap] 28))
    have S1 := Lib.hid ((HS.out.on hb.out).al (.cells #[.int .i64 k, .slice A a.length cap] 28))
    have Z1 := Lib.hid (ints_al (own_I ho.out hl) (.cells #[.int .i64 k, .slice A a.length cap] 28))
    clear hE hr hb ho hl HX0 HY0 HS K0 K1
    simp only [Option.isSome_some]
    go_wp2_with fail
    refine (iBetween_any _ _ _ _ _ _ _ _ _ _ _ _ _ _ _ _ X1.out Y1.out S1.out Z1.out HR.out).mono ?_
    rintro e w2 ⟨rfl, hb2⟩
    have B2 := Lib.hid (below_on (below_al B1.out (Nat.le_refl _) (.cells #[.int .i64 k, .slice A a.length cap] 28)) hb2)
    clear hb2 k0 k1 k2 k3
    go_wp2_with fail
    go_ret
    exact ⟨rfl, B2.out⟩
theorem sGrade_any (m : Int) (A1 A2 A3 : Option Addr) (c1 c2 c3 : Nat) (xs ys : List Int) (ss : List StepD) (l : ByteArray) (hll : l.size ≤ 1048576) (w : World) (hx : Ints w w.heap.size A1 xs) (hy : Ints w w.heap.size A2 ys) (hs : SRow w w.heap.size A3 ss) :
    Calls Tryz.prog 14 #[.agg #[.int .i64 m, .slice A1 xs.length c1, .slice A2 ys.length c2, .slice A3 ss.length c3], .string l] w fun e w' => e = .returned (.int .i64 (gradeR m xs ys ss l.data.toList)) ∧ Hid (Below w.heap.size w w') := by
  have HX0 := Lib.hid (ints_al hx (.cells #[.int .i64 m, .slice A1 xs.length c1, .slice A2 ys.length c2, .slice A3 ss.length c3] 33))
  have HY0 := Lib.hid (ints_al hy (.cells #[.int .i64 m, .slice A1 xs.length c1, .slice A2 ys.length c2, .slice A3 ss.length c3] 33))
  have HS := Lib.hid (hs.al (.cells #[.int .i64 m, .slice A1 xs.length c1, .slice A2 ys.length c2, .slice A3 ss.length c3] 33))
  have K0 := Lib.hid (Blk.new w 33 #[.int .i64 m, .slice A1 xs.length c1, .slice A2 ys.length c2, .slice A3 ss.length c3])
  have B0 := Lib.hid (below_a1 w (.cells #[.int .i64 m, .slice A1 xs.length c1, .slice A2 ys.length c2, .slice A3 ss.length c3] 33))
  clear hx hy hs
  go_enter Tryz.func14, Tryz.ntmps14
  go_wp2_with fail
  refine (sValue_any _ _ _ _ _ _ _ _ _ _ _ hll _ HX0.out HY0.out HS.out).mono ?_
  intro e w1 hE
  obtain ⟨r, hr⟩ : ∃ r, valueR m xs ys ss l.data.toList = r := ⟨_, rfl⟩
  rw [hr] at hE
  cases r with
  | none =>
    have HR : Hid (gradeR m xs ys ss l.data.toList = -1) := by show _ = _; unfold gradeR; rw [hr]
    obtain ⟨A, cap, rfl, ho, hl, hb⟩ := mend_open (p := (0, [])) hE rfl
    have B1 := Lib.hid (below_on B0.out hb.out)
    clear hE hr hb HX0 HY0 HS
    simp only [Option.isSome_none]
    go_wp2_with fail
    go_ret
    exact ⟨by rw [HR.out]; rfl, below_al B1.out (Nat.le_refl _) _⟩
  | some q =>
    obtain ⟨k, a⟩ := q
    obtain ⟨n, rfl, rfl, hok, hga⟩ := valueR_some hr
    obtain ⟨n', hn', n1, n2, hxi, hyi, _, hsi⟩ := auto_in hok
    obtain rfl : n' = n := by omega
    have HR : Hid (betF n' a ys 3 xs = gradeR (n' : Int) xs ys ss l.data.toList) := by
      show _ = _
      unfold gradeR
      rw [hr]
      show _ = betR (n' : Int) xs ys ss (n' : Int) a
      unfold betR betB
      rw [hok, hga.ok]
      simp
    obtain ⟨A, cap, rfl, ho, hl, hb⟩ := mend_open (p := ((n' : Int), a)) hE rfl
    dsimp only at ho hl
    obtain ⟨pp, hpp⟩ : ∃ pp, pp = n' * n' := ⟨_, rfl⟩
    have hpb16 : pp ≤ 16 := by
      rw [hpp]
      calc n' * n' ≤ 4 * 4 := Nat.mul_le_mul n2 n2
        _ = 16 := rfl
    have HPP : Hid (pp = n' * n') := hpp
    have hal : a.length = pp := hga.len.trans hpp.symm
    have HAL := Lib.hid hal
    have HXI := Lib.hid hxi
    have HYI := Lib.hid hyi
    have B1 := Lib.hid (below_on B0.out hb.out)
    have K1 := blk_b K0.out hb.out
    have k0 := fun o => (K1.alloc o).cell 0
    have k1 := fun o => (K1.alloc o).cell 1
    have k2 := fun o => (K1.alloc o).cell 2
    have k3 := fun o => (K1.alloc o).cell 3
    dsimp at k0 k1 k2 k3
    have X1 := Lib.hid (ints_al ((HX0.out.below hb.out).more hb.out.size) (.cells #[.int .i64 n', .slice A pp cap] 28))
    have Y1 := Lib.hid (ints_al ((HY0.out.below hb.out).more hb.out.size) (.cells #[.int .i64 n', .slice A pp cap] 28))
    have S1 := Lib.hid ((HS.out.on hb.out).al (.cells #[.int .i64 n', .slice A pp cap] 28))
    have Z1 := Lib.hid (ints_al (own_I ho.out hl) (.cells #[.int .i64 n', .slice A pp cap] 28))
    simp only [Option.isSome_some]
    rw [hal]
    clear hE hr hb ho hl HX0 HY0 HS K0 K1 hok hga hxi hyi hsi hpp hal hn'
    go_wp2_with fail
    refine (l6Between_any n' pp A1 c1 xs A2 c2 ys A3 c3 ss A cap a (gradeR (n' : Int) xs ys ss l.data.toList) _ n1 n2 hpb16 HPP HAL HXI HYI X1.out Y1.out S1.out Z1.out HR).mono ?_
    rintro e w2 ⟨rfl, hb2⟩
    have B2 := Lib.hid (below_on (below_al B1.out (Nat.le_refl _) (.cells #[.int .i64 n', .slice A pp cap] 28)) hb2)
    clear hb2 k0 k1 k2 k3
    go_wp2_with fail
    go_ret
    exact ⟨rfl, B2.out⟩
theorem iGrade_w (m : Int) (A1 A2 A3 : Option Addr) (c1 c2 c3 : Nat) (xs ys : List Int) (ss : List StepD) (l : ByteArray) (r : Int) (hll : l.size ≤ 1048576) (w : World) (hx : Ints w w.heap.size A1 xs) (hy : Ints w w.heap.size A2 ys) (hs : SRow w w.heap.size A3 ss) (hr : gradeR m xs ys ss l.data.toList = r) :
    Calls Tryz.prog 15 #[.agg #[.int .i64 m, .slice A1 xs.length c1, .slice A2 ys.length c2, .slice A3 ss.length c3], .string l] w fun e w' => e = .returned (.int .i64 r) ∧ Hid (Below w.heap.size w w') := by
  subst hr; exact iGrade_any m A1 A2 A3 c1 c2 c3 xs ys ss l w hx hy hs
theorem sGrade_w (m : Int) (A1 A2 A3 : Option Addr) (c1 c2 c3 : Nat) (xs ys : List Int) (ss : List StepD) (l : ByteArray) (r : Int) (hll : l.size ≤ 1048576) (w : World) (hx : Ints w w.heap.size A1 xs) (hy : Ints w w.heap.size A2 ys) (hs : SRow w w.heap.size A3 ss) (hr : gradeR m xs ys ss l.data.toList = r) :
    Calls Tryz.prog 14 #[.agg #[.int .i64 m, .slice A1 xs.length c1, .slice A2 ys.length c2, .slice A3 ss.length c3], .string l] w fun e w' => e = .returned (.int .i64 r) ∧ Hid (Below w.heap.size w w') := by
  subst hr; exact sGrade_any m A1 A2 A3 c1 c2 c3 xs ys ss l hll w hx hy hs
end Go.Proofs.YthcfdmphephfpaaGreat
