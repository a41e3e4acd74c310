/- The model's search for the first power that is its own square. -/
import Derived.Test.YtaiplhddbmhodaaGOwn
namespace Go.Proofs.Ytaiplhddbmhodaa
open Go.RowKit
set_option maxHeartbeats 2000000
set_option maxRecDepth 100000
set_option linter.unusedVariables false

/-- E + 1 is the exponent of the first power that is its own square. -/
def FirstIdem (N : Nat) (zs : List Int) (E : Nat) : Prop := E ≤ 4294967296 ∧ gmulL N (gpw N zs E) (gpw N zs E) = gpw N zs E ∧ ∀ k, k < E → gmulL N (gpw N zs k) (gpw N zs k) ≠ gpw N zs k
theorem first_of {p : Nat → Prop} [DecidablePred p] : ∀ n, p n → ∃ m, m ≤ n ∧ p m ∧ ∀ k, k < m → ¬ p k := by
  intro n
  induction n using Nat.strongRecOn with
  | _ n ih =>
    intro h
    by_cases hc : ∃ k, k < n ∧ p k
    · obtain ⟨k, hk, hp⟩ := hc
      obtain ⟨m, h1, h2, h3⟩ := ih k hk hp
      exact ⟨m, by omega, h2, h3⟩
    · exact ⟨n, Nat.le_refl _, h, fun k hk hp => hc ⟨k, hk, hp⟩⟩
theorem firstIdem {N : Nat} {zs : List Int} (h : GV N zs) : ∃ E, FirstIdem N zs E := by
  obtain ⟨e, h1, h2⟩ := some_idem h
  obtain ⟨m, h3, h4, h5⟩ := first_of (p := fun e => gmulL N (gpw N zs e) (gpw N zs e) = gpw N zs e) e h2
  exact ⟨m, by omega, h4, h5⟩

theorem own_setm {w : World} {base n k : Nat} {t' : TypeId} {x : Value} {xs : List Value} {cs : Array Value} (ho : w.ownsRow base 3 1 x n xs) (hk : Blk w k t' cs) (i : Nat) (v : Value) (hne : 3 ≠ t' := by decide) : (w.setCell ⟨k, i, none⟩ v).ownsRow base 3 1 x n xs := by
  refine ho.kept (grow_set w k i v) ?_
  have := own_other ho hk hne
  rcases h0 : x.ownBlock with _ | j
  · exact Or.inl rfl
  · right; intro he; exact this (by rw [h0]; exact he.symm)
theorem own_len {w : World} {base p n q cap : Nat} {t : TypeId} {A : Option Addr} {xs : List Value} (h : w.ownsRow base t 1 (.slice A p cap) q xs) (e : p = n) : w.ownsRow base t 1 (.slice A n cap) q xs := by subst e; exact h
theorem own_int {w : World} {base p cap : Nat} {A : Option Addr} {zs : List Int} (h : w.ownsRow base 3 1 (.slice A p cap) p (zs.map (Value.int .i64))) (hl : zs.length = p) (hm : p ≤ 1048577) : Ints w w.heap.size A zs := by
  subst hl
  obtain ⟨_, _, e, _, i⟩ := own_ints h (by unfold maxLen; omega)
  cases e
  exact i

theorem own_base' {w : World} {base n : Nat} {t : TypeId} {x : Value} {xs : List Value} (h : w.ownsRow base t 1 x n xs) (base' : Nat) (hb : base' ≤ base) : w.ownsRow base' t 1 x n xs := own_base h hb

/-- What the search leaves. -/
def IdEnd (m : Int) (zs : List Int) (w : World) (e : Ending) (w' : World) : Prop :=
  ∃ (k : Int) (A : Option Addr) (cap : Nat) (rs : List Int) (n : Int) (ok : Bool), e = .returned (.tuple #[.agg #[.int .i64 k, .slice A rs.length cap], .int .i64 n, .bool ok]) ∧ Hid (Below w.heap.size w w') ∧ rs.length ≤ 1048577 ∧
    Hid (w'.ownsRow w.heap.size 3 1 (.slice A rs.length cap) rs.length (rs.map (Value.int .i64))) ∧
    Hid (ok = false → gradeOk m zs = false ∧ k = 0 ∧ rs = [] ∧ n = 0) ∧ Hid (ok = true → ∃ (N E : Nat), m = (N : Int) ∧ GV N zs ∧ FirstIdem N zs E ∧ n = (E : Int) + 1 ∧ k = (N : Int) ∧ rs = gpw N zs E)

theorem sIdem_any (m : Int) (A : Option Addr) (cap p : Nat) (zs : List Int) (w : World) (hp : zs.length = p) (hz : Ints w w.heap.size A zs) (h1 : 1 ≤ p) (hs : p ≤ 1048576) :
    Calls Try.prog 48 #[.agg #[.int .i64 m, .slice A p cap]] w fun e w' => IdEnd m zs w e w' := by
  rcases Bool.eq_false_or_eq_true (gradeOk m zs) with hg | hg
  · obtain ⟨N, rfl, gv⟩ := gradeOk_t hg
    obtain ⟨E, hE⟩ := firstIdem gv
    have n1 := gv.lo
    have n2 := gv.hi
    have p1 : p ≤ 16 := by rw [← hp, gv.len]; exact gv.mv.sq
    have HP : Hid (p = N * N) := by show _ = _; rw [← hp, gv.len]
    have HG := Lib.hid hg
    have GVH := Lib.hid gv
    have HE := Lib.hid hE
    have HL := Lib.hid hp
    have HZ := Lib.hid hz
    clear hg gv hE hp hz
    go_enter Try.func48, Try.ntmps48
    go_wp2_with fail
    refine (l13Own_any N A cap p zs _ HL.out (ints_al (ints_al HZ.out _) _) h1 hs).mono ?_
    rintro e w2 ⟨_, rfl, ⟨x, rfl, ho, hl⟩, hb2⟩
    rw [HL.out] at ho
    have O2 := Lib.hid ho
    obtain ⟨A2, cap2, hx, _, hi2⟩ := own_ints (vs := zs) (by rw [HL.out]; exact ho) (by unfold maxLen; omega)
    rw [HL.out] at hx
    subst hx
    have P2 := Lib.hid (show Blk w2 w.heap.size 25 #[.int .i64 N, .slice A p cap] from (((Blk.new w _ _).alloc _).below hb2 (by simp; omega)))
    have R2 := Lib.hid (show Blk w2 (w.heap.size + 1) 25 #[.int .i64 0, .slice none 0 0] from ((blk_new (by simp)).below hb2 (by simp)))
    have B2 := Lib.hid (below_on (below_a2 w _ _) hb2)
    have I2 := Lib.hid hi2
    clear ho hl hb2 hi2
    obtain ⟨a0, a1⟩ := two_cells P2.out
    obtain ⟨f0, f1⟩ := two_frozen P2.out
    go_wp2_with fail
    obtain ⟨w5, hw5⟩ : ∃ w5, w5 = (w2.setCell ⟨w.heap.size, 0, none⟩ (.int .i64 N)).setCell ⟨w.heap.size, 1, none⟩ (.slice A2 p cap2) := ⟨_, rfl⟩
    have P5 := Lib.hid (show Blk w5 w.heap.size 25 #[.int .i64 N, .slice A2 p cap2] by rw [hw5]; exact (P2.out.set_ 0 (.int .i64 N)).set_ 1 (.slice A2 p cap2))
    have R5 := Lib.hid (show Blk w5 (w.heap.size + 1) 25 #[.int .i64 0, .slice none 0 0] by rw [hw5]; exact (R2.out.other _ 0 _ (by omega)).other _ 1 _ (by omega))
    have B5 := Lib.hid (show Below w.heap.size w w5 by rw [hw5]; exact (B2.out.setCell (p := ⟨w.heap.size, 0, none⟩) (by simp) _).setCell (p := ⟨w.heap.size, 1, none⟩) (by simp) _)
    have O5 := Lib.hid (show w5.ownsRow w.heap.size 3 1 (.slice A2 p cap2) p (zs.map (Value.int .i64)) by rw [hw5]; exact own_setm (own_setm (own_base O2.out (by simp; omega)) P2.out 0 _) (P2.out.set_ 0 _) 1 _)
    have I5 := Lib.hid (own_int O5.out HL.out (by omega))
    rw [← hw5]
    clear O2 P2 R2 B2 I2 a0 a1 f0 f1 hw5
    refine (sGradesValid_p _ _ _ _ _ _ _ HL.out I5.out HG.out).mono ?_
    rintro e w6 ⟨rfl, hb6⟩
    have P6 := Lib.hid (P5.out.below hb6 (Blk.lt P5.out))
    have R6 := Lib.hid (R5.out.below hb6 (Blk.lt R5.out))
    have B6 := Lib.hid (below_on B5.out hb6)
    have O6 := Lib.hid (own_under O5.out hb6)
    clear hb6 P5 R5 B5 O5 I5
    obtain ⟨a0, a1⟩ := two_cells P6.out
    have a0' : ∀ o, (w6.alloc o).cell? ⟨w.heap.size, 0, none⟩ = some (.int .i64 N) := fun o => (two_cells (P6.out.alloc o)).1
    have a1' : ∀ o, (w6.alloc o).cell? ⟨w.heap.size, 1, none⟩ = some (.slice A2 p cap2) := fun o => (two_cells (P6.out.alloc o)).2
    go_wp2_with fail
    obtain ⟨V, hV⟩ : ∃ V, V = w6.heap.size := ⟨_, rfl⟩
    obtain ⟨w7, hw7⟩ : ∃ w7, w7 = w6.alloc (.cells #[.int .i64 N, .slice A2 p cap2] 25) := ⟨_, rfl⟩
    have P7 := Lib.hid (show Blk w7 w.heap.size 25 #[.int .i64 N, .slice A2 p cap2] by rw [hw7]; exact P6.out.alloc _)
    have R7 := Lib.hid (show Blk w7 (w.heap.size + 1) 25 #[.int .i64 0, .slice none 0 0] by rw [hw7]; exact R6.out.alloc _)
    have V7 := Lib.hid (show Blk w7 V 25 #[.int .i64 N, .slice A2 p cap2] by rw [hw7, hV]; exact Blk.new _ _ _)
    have B7 := Lib.hid (show Below w.heap.size w w7 by rw [hw7]; exact B6.out.alloc (by have := B6.out.size; omega) _)
    have O7 := Lib.hid (show w7.ownsRow w.heap.size 3 1 (.slice A2 p cap2) p (zs.map (Value.int .i64)) by rw [hw7]; exact O6.out.alloc _)
    have hRV : w.heap.size + 1 < V := by have := Blk.lt R6.out; omega
    rw [← hw7, ← hV]
    clear hw7 hV P6 R6 B6 O6 a0 a1 a0' a1'
    go_loopg [5] E (fun gh i wr => ∃ (k : Nat) (Ao : Option Addr) (capo : Nat), k ≤ E ∧ gh = E - k ∧ i = .int .i64 ((k : Int) + 1) ∧ Hid (Blk wr w.heap.size 25 #[.int .i64 N, .slice A2 p cap2]) ∧ Hid (Blk wr (w.heap.size + 1) 25 #[.int .i64 0, .slice none 0 0]) ∧ Hid (Blk wr V 25 #[.int .i64 N, .slice Ao p capo]) ∧ Hid (Below w.heap.size w wr) ∧ Hid (wr.ownsRow w.heap.size 3 1 (.slice A2 p cap2) p (zs.map (Value.int .i64))) ∧ Hid (wr.ownsRow w.heap.size 3 1 (.slice Ao p capo) p ((gpw N zs k).map (Value.int .i64))))
    case atStart => exact ⟨0, A2, cap2, Nat.zero_le _, rfl, rfl, P7, R7, V7, B7, O7, O7⟩
    case round =>
      obtain ⟨k, Ao, capo, hk, rfl, rfl, hP, hR, hVr, hB, hM, hO⟩ := hrel
      have hlk : (gpw N zs k).length = p := by rw [(gpw_ok GVH.out k).len]; exact HP.out.symm
      have HLK := Lib.hid hlk
      have GK := Lib.hid (gpw_ok GVH.out k)
      have IO := Lib.hid (own_int hO.out hlk (by omega))
      obtain ⟨a0, a1⟩ := two_cells hVr.out
      obtain ⟨d, hd⟩ : ∃ d, d = decide (gmulL N (gpw N zs k) (gpw N zs k) = gpw N zs k) := ⟨_, rfl⟩
      have HD := Lib.hid hd
      clear hlk hd
      go_wp2_with fail
      refine (l6Idem_is N p _ _ (gpw N zs k) d _ n1 n2 p1 HP HLK GK.out.in_ IO.out HD.out.symm).mono ?_
      rintro e w8 ⟨rfl, hb8⟩
      have P8 := Lib.hid (hP.out.below hb8 (Blk.lt hP.out))
      have R8 := Lib.hid (hR.out.below hb8 (Blk.lt hR.out))
      have V8 := Lib.hid (hVr.out.below hb8 (Blk.lt hVr.out))
      have B8 := Lib.hid (below_on hB.out hb8)
      have M8 := Lib.hid (own_under hM.out hb8)
      have O8 := Lib.hid (own_under hO.out hb8)
      clear hb8 hP hR hVr hB hM hO IO a0 a1
      obtain ⟨a0, a1⟩ := two_cells V8.out
      obtain ⟨b0, b1⟩ := two_cells P8.out
      obtain ⟨f0, f1⟩ := two_frozen V8.out
      rcases Bool.eq_false_or_eq_true d with h | h
      · subst h
        have hke : k = E := by
          rcases Nat.lt_or_ge k E with h | h
          · exact absurd (of_decide_eq_true HD.out.symm) (HE.out.2.2 k h)
          · omega
        obtain ⟨d0, d1⟩ := two_cells R8.out
        obtain ⟨g0, g1⟩ := two_frozen R8.out
        clear f0 f1 b0 b1
        go_wp2_with fail
        have hS := own_cast (own_setm (own_setm O8.out R8.out 0 (.int .i64 N)) (R8.out.set_ 0 (.int .i64 N)) 1 (.slice Ao p capo)) HLK.out.symm rfl
        have hB := (B8.out.setCell (p := ⟨w.heap.size + 1, 0, none⟩) (by simp) (.int .i64 N)).setCell (p := ⟨w.heap.size + 1, 1, none⟩) (by simp) (.slice Ao p capo)
        refine bodyPost_ret (results_3 rfl (gives_mat (g := w.heap.size + 1) rfl ((R8.out.set_ 0 (.int .i64 N)).set_ 1 (.slice Ao p capo))) (.tmp rfl) (.tmp rfl)) rfl ?_
        exact ⟨N, Ao, capo, gpw N zs k, (E : Int) + 1, true, (by rw [HLK.out]; rfl), hB, (by have := HLK.out; omega), own_len hS HLK.out.symm, (fun h => by cases h), fun _ => ⟨N, k, rfl, GVH.out, (by rw [hke]; exact HE.out), (by rw [hke]), rfl, rfl⟩⟩
      · subst h
        have hke : k < E := by
          rcases Nat.lt_or_ge k E with h | h
          · exact h
          · obtain rfl : k = E := by omega
            exact absurd HE.out.2.1 (of_decide_eq_false HD.out.symm)
        have hnk : wrap64 ((k : Int) + 1 + 1) = ((k + 1 : Nat) : Int) + 1 := by
          have hEb := HE.out.1
          have h := w64_nat (p := k + 2) (by omega)
          rw [show ((k : Int) + 1 + 1) = ((k + 2 : Nat) : Int) by omega, h]
          omega
        have HNK := Lib.hid hnk
        have IO := Lib.hid (own_int O8.out HLK.out (by omega))
        have IM := Lib.hid (own_int M8.out HL.out (by omega))
        clear hnk
        go_wp2_with fail
        refine (l6Mul_any N p _ _ _ _ (gpw N zs k) zs _ n1 n2 p1 HP HLK HL (Lib.hid GK.out.in_) (Lib.hid GVH.out.in_) IO.out IM.out).mono ?_
        rintro e w9 ⟨_, rfl, ⟨x, rfl, ho, hl⟩, hb9⟩
        have hlk1 : (gmulL N (gpw N zs k) zs).length = p := by rw [(gmulL_ok GK.out GVH.out).len]; exact HP.out.symm
        rw [hlk1] at ho
        obtain ⟨A9, cap9, hx, _, hi9⟩ := own_ints (vs := gmulL N (gpw N zs k) zs) (by rw [hlk1]; exact ho) (by unfold maxLen; omega)
        rw [hlk1] at hx
        subst hx
        have O9 := Lib.hid ho
        have P9 := Lib.hid (P8.out.below hb9 (Blk.lt P8.out))
        have R9 := Lib.hid (R8.out.below hb9 (Blk.lt R8.out))
        have V9 := Lib.hid (V8.out.below hb9 (Blk.lt V8.out))
        have B9 := Lib.hid (below_on B8.out hb9)
        have M9 := Lib.hid (own_under M8.out hb9)
        have hV8 := Blk.lt V8.out
        have hb8 := B8.out.size
        clear ho hl hb9 hi9 hlk1 P8 R8 V8 B8 M8 O8 IO IM a0 a1 b0 b1 f0 f1
        obtain ⟨a0, a1⟩ := two_cells V9.out
        obtain ⟨f0, f1⟩ := two_frozen V9.out
        go_wp2_with fail
        rw [HNK.out]
        go_roundg (E - (k + 1))
        case rel => exact ⟨k + 1, A9, cap9, by omega, rfl, rfl, Lib.hid ((P9.out.other V 0 _ (by omega)).other V 1 _ (by omega)), Lib.hid ((R9.out.other V 0 _ (by omega)).other V 1 _ (by omega)), Lib.hid ((V9.out.set_ 0 _).set_ 1 _), Lib.hid ((B9.out.setCell (p := ⟨V, 0, none⟩) (by simp; omega) _).setCell (p := ⟨V, 1, none⟩) (by simp; omega) _), Lib.hid (own_setm (own_setm M9.out V9.out 0 _) (V9.out.set_ 0 _) 1 _), Lib.hid (own_setm (own_setm (own_base' O9.out w.heap.size hb8) V9.out 0 _) (V9.out.set_ 0 _) 1 _)⟩
        case measure => omega
  · have HG := Lib.hid hg
    have HL := Lib.hid hp
    have HZ := Lib.hid hz
    clear hg hp hz
    go_enter Try.func48, Try.ntmps48
    go_wp2_with fail
    refine (l13Own_any m A cap p zs _ HL.out (ints_al (ints_al HZ.out _) _) h1 hs).mono ?_
    rintro e w2 ⟨_, rfl, ⟨x, rfl, ho, hl⟩, hb2⟩
    rw [HL.out] at ho
    have O2 := Lib.hid ho
    obtain ⟨A2, cap2, hx, _, hi2⟩ := own_ints (vs := zs) (by rw [HL.out]; exact ho) (by unfold maxLen; omega)
    rw [HL.out] at hx
    subst hx
    have P2 := Lib.hid (show Blk w2 w.heap.size 25 #[.int .i64 m, .slice A p cap] from (((Blk.new w _ _).alloc _).below hb2 (by simp; omega)))
    have R2 := Lib.hid (show Blk w2 (w.heap.size + 1) 25 #[.int .i64 0, .slice none 0 0] from ((blk_new (by simp)).below hb2 (by simp)))
    have B2 := Lib.hid (below_on (below_a2 w _ _) hb2)
    have I2 := Lib.hid hi2
    clear ho hl hb2 hi2
    obtain ⟨a0, a1⟩ := two_cells P2.out
    obtain ⟨f0, f1⟩ := two_frozen P2.out
    go_wp2_with fail
    obtain ⟨w5, hw5⟩ : ∃ w5, w5 = (w2.setCell ⟨w.heap.size, 0, none⟩ (.int .i64 m)).setCell ⟨w.heap.size, 1, none⟩ (.slice A2 p cap2) := ⟨_, rfl⟩
    have R5 := Lib.hid (show Blk w5 (w.heap.size + 1) 25 #[.int .i64 0, .slice none 0 0] by rw [hw5]; exact (R2.out.other _ 0 _ (by omega)).other _ 1 _ (by omega))
    have B5 := Lib.hid (show Below w.heap.size w w5 by rw [hw5]; exact (B2.out.setCell (p := ⟨w.heap.size, 0, none⟩) (by simp) _).setCell (p := ⟨w.heap.size, 1, none⟩) (by simp) _)
    have O5 := Lib.hid (show w5.ownsRow w.heap.size 3 1 (.slice A2 p cap2) p (zs.map (Value.int .i64)) by rw [hw5]; exact own_setm (own_setm (own_base O2.out (by simp; omega)) P2.out 0 _) (P2.out.set_ 0 _) 1 _)
    have I5 := Lib.hid (own_int O5.out HL.out (by omega))
    rw [← hw5]
    clear O2 P2 R2 B2 I2 a0 a1 f0 f1 hw5
    refine (sGradesValid_p _ _ _ _ _ _ _ HL.out I5.out HG.out).mono ?_
    rintro e w6 ⟨rfl, hb6⟩
    have R6 := Lib.hid (R5.out.below hb6 (Blk.lt R5.out))
    have B6 := Lib.hid (below_on B5.out hb6)
    clear hb6 R5 B5 O5 I5
    obtain ⟨d0, d1⟩ := two_cells R6.out
    obtain ⟨g0, g1⟩ := two_frozen R6.out
    go_wp2_with fail
    have hB := (B6.out.setCell (p := ⟨w.heap.size + 1, 0, none⟩) (by simp) (.int .i64 0)).setCell (p := ⟨w.heap.size + 1, 1, none⟩) (by simp) (.slice none 0 0)
    refine bodyPost_ret (results_3 rfl (gives_mat (g := w.heap.size + 1) rfl ((R6.out.set_ 0 (.int .i64 0)).set_ 1 (.slice none 0 0))) (.tmp rfl) (.tmp rfl)) rfl ?_
    exact ⟨0, none, 0, [], _, false, rfl, hB, Nat.zero_le _, World.ownsRow_nil _ _ _ _, (fun _ => ⟨HG.out, rfl, rfl, rfl⟩), (fun h => by cases h)⟩
end Go.Proofs.Ytaiplhddbmhodaa
