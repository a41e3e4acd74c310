/- A matrix that may be spoilt: in memory of the call's own or as it came; nothing that was there changes but the reader. -/
import Derived.Test.YtonnolpjfjbjpaaDoorDrawM
import Derived.Maps.AppendAt
namespace Go.Proofs.YtonnolpjfjbjpaaDoor
open Go.RowKit
set_option maxHeartbeats 2000000
set_option maxRecDepth 100000
set_option linter.unusedVariables false

/-- What a drawing function leaves that returns a matrix. -/
def DrawnAL (L base B g : Nat) (A : Option Addr) (cap : Nat) (zs : List Int) (p K : Nat) (w : World) (e : Ending) (w' : World) : Prop :=
  ∃ (v : Value) (m : Int) (vs : List Int) (q : Nat), e = .returned v ∧ MatOwn w' base v m vs ∧ (1 ≤ vs.length ∧ vs.length ≤ L) ∧ q ≤ p + K ∧ Rd w' B g A cap zs q ∧ w.grownBy w' (some g)
/-- The same of at most 18 numbers. -/
def DrawnA (base B g : Nat) (A : Option Addr) (cap : Nat) (zs : List Int) (p K : Nat) (w : World) (e : Ending) (w' : World) : Prop := DrawnAL 18 base B g A cap zs p K w e w'

theorem step_append_any {P : Program} {ops : Array Oper} {o : Oper} {a : Act} {w : World} {K : Act → World → Prop} {Q : Exit → Act → World → Prop} {E : Prop} (hgd : o.guard = none) (s x : Operand) (t : TypeId)
    (ho : o.op = .call { callee := .builtin .append, args := #[s, x], argTypes := #[t, t] })
    (base : Nat) (e : TypeId) (i : TypeInfo) (z : Value) (size bytes : Nat) (ht : P.underlying t = some (.slice e)) (hi : P.info? e = some i) (hz : i.zero = some z)
    (hsize : i.size = size) (hby : i.bytes = bytes) (hzs : z.cells.size = size) (hsz : 0 < size)
    (v : Value) (n : Nat) (xs : List Value) (hs : a.eval s = v) (hown : w.ownsRow base e size v n xs)
    (ad : Addr) (m c : Nat) (news : List Value) (hx : a.eval x = .slice (some ad) m c) (hl : news.length = m * size) (hnews : ∀ j u, news[j]? = some u → w.cell? (ad.add j) = some u) (h1 : ∀ u ∈ news, u.oneCell' = true)
    (h63 : n + m ≤ maxLen) (hbytes : (n + m) * bytes ≤ 140737488355328) (hbase : base ≤ w.heap.size)
    (h : ∀ v' w', w'.ownsRow base e size v' (n + m) (xs ++ news) → w.grownBy w' v.ownBlock → K (a.put o.dst v') w') :
    if Region.wanted o (yielded ops a.tmps) = true then Oper.wp P o a w K Q else E := by
  have hw : Region.wanted o (yielded ops a.tmps) = true := by simp [Region.wanted, hgd]
  rw [if_pos hw]
  obtain ⟨v', w', hr, h2, h3, _, _⟩ := run_append_own_at (P := P) w base t o.type e i z size bytes ht hi hz hsize hby hzs hsz v n xs hown ad m c news hl hnews h1 h63 hbytes hbase
  unfold Oper.wp execOp
  simp only [ho, resolve, invoke, builtin, Sem.run_bind, Sem.run_pure, Result.andThen_ok, List.map_toArray, List.map_cons, List.map_nil, hs, hx, hr]
  exact h v' w' h2 h3

theorem own_ap {w w' : World} {base k n : Nat} {t : TypeId} {x : Value} {xs : List Value} (h : w.ownsRow base t 1 x n xs) (hg : w.grownBy w' (some k)) (hne : ∀ j, x.ownBlock = some j → j ≠ k) : w'.ownsRow base t 1 x n xs :=
  h.kept hg (by
    rcases h0 : x.ownBlock with _ | j
    · exact Or.inl rfl
    · right
      intro he
      cases he
      exact hne k h0 rfl)

theorem l2Bad_anyL (L : Nat) (hL : L ≤ 100) (w : World) (base B g : Nat) (A : Option Addr) (cap : Nat) (zs : List Int) (q0 : Nat) (N : Int) (n : Nat) (A0 : Option Addr) (cap0 : Nat) (vs : List Int) (h : Rd w B g A cap zs q0) (hq0 : q0 + 2 ≤ 1000000000000) (hvl : vs.length = n) (n1 : 1 ≤ n) (n2 : n + 1 ≤ L)
    (ho : w.ownsRow base 3 1 (.slice A0 n cap0) n (vs.map (Value.int .i64))) (hgb : g < base) (hbw : base ≤ w.heap.size) :
    Calls Tryd.prog 34 #[.pointer (some ⟨g, 0, none⟩), .agg #[.int .i64 N, .slice A0 n cap0]] w fun e w' => DrawnAL L base B g A cap zs q0 2 w e w' := by
  obtain ⟨i0, hi, hz0, hz1, hz2⟩ := info_parts info_int
  have Z0 := Lib.hid hz0
  have Z1 := Lib.hid hz1
  have Z2 := Lib.hid hz2
  have ZI := Lib.hid hi
  clear hz0 hz1 hz2 hi
  have hgw := h.lt
  have hrow0 : ∀ j, (Value.slice A0 n cap0).ownBlock = some j → j < w.heap.size := fun j hj => (ho.lt j hj).2
  go_enter Tryd.func34, Tryd.ntmps34
  go_wp2_with fail
  refine (pick_any _ _ _ _ _ _ _ _ ((h.alloc _).alloc _) (by omega)).mono ?_
  rintro e w2 ⟨v, rfl, v0, v1, hoff, hrd⟩
  have D2 := Lib.hid (hrd (by omega))
  have M2 := Lib.hid (show Blk w2 w.heap.size 25 #[.int .i64 N, .slice A0 n cap0] from hoff.blk ((Blk.new _ _ _).alloc _) (by omega))
  have R2 := Lib.hid (show Blk w2 (w.heap.size + 1) 25 #[.int .i64 0, .slice none 0 0] from hoff.blk (blk_new (by simp)) (by omega))
  have G2 := Lib.hid (grow_trans (grow_below_any (below_a2 w (.cells #[.int .i64 N, .slice A0 n cap0] 25) (.cells #[.int .i64 0, .slice none 0 0] 25)) (some g)) hoff.grown)
  have O2 := Lib.hid (own_far ((ho.alloc (.cells #[.int .i64 N, .slice A0 n cap0] 25)).alloc (.cells #[.int .i64 0, .slice none 0 0] 25)) hoff.grown hgb)
  clear hrd hoff v0 v1 h ho
  obtain ⟨R, hR⟩ : ∃ R, R = w.heap.size + 1 := ⟨_, rfl⟩
  rw [← hR] at R2
  rw [← hR]
  have hRw : w.heap.size < R := by omega
  have hR2 := Blk.lt R2.out
  -- the common end: the box's size and row at a world w9
  have fin : ∀ (w9 : World) (m : Int) (x : Option Addr) (k capx q : Nat) (us : List Int), us.length = k → (1 ≤ k ∧ k ≤ L) → w9.ownsRow base 3 1 (.slice x k capx) k (us.map (Value.int .i64)) → (∀ j, (Value.slice x k capx).ownBlock = some j → j ≠ R) → Blk w9 R 25 #[.int .i64 0, .slice none 0 0] → q ≤ q0 + 2 → Rd w9 B g A cap zs q → w.grownBy w9 (some g) →
      Blk ((w9.setCell ⟨R, 0, none⟩ (.int .i64 m)).setCell ⟨R, 1, none⟩ (.slice x k capx)) R 25 #[.int .i64 m, .slice x k capx] ∧ DrawnAL L base B g A cap zs q0 2 w (.returned (.agg #[.int .i64 m, .slice x k capx])) ((w9.setCell ⟨R, 0, none⟩ (.int .i64 m)).setCell ⟨R, 1, none⟩ (.slice x k capx)) := by
    intro w9 m x k capx q us hk hk17 hown hne hblk hq hrd9 hg9
    subst hk
    have hd : (Value.slice x us.length capx).ownBlock = none ∨ (Value.slice x us.length capx).ownBlock ≠ some R := by
      rcases h0 : (Value.slice x us.length capx).ownBlock with _ | j
      · exact Or.inl rfl
      · right
        intro he
        cases he
        exact hne R h0 rfl
    refine ⟨(hblk.set_ 0 _).set_ 1 _, _, m, us, q, rfl, ⟨_, rfl, (hown.kept (grow_set w9 R 0 _) hd).kept (grow_set _ R 1 _) hd, by omega⟩, hk17, hq, ?_, ?_⟩
    · exact (hrd9.grown (grow_set w9 R 0 _) (fun j hj => by cases hj; omega)).grown (grow_set _ R 1 _) (fun j hj => by cases hj; omega)
    · exact grow_own (grow_own hg9 (grow_set w9 R 0 _) (fun j hj => by cases hj; omega)) (grow_set _ R 1 _) (fun j hj => by cases hj; omega)
  have FIN := Lib.hid fin
  clear fin hR
  obtain ⟨m0, m1⟩ := two_cells M2.out
  obtain ⟨mf0, mf1⟩ := two_frozen M2.out
  by_cases hv0 : v = 0
  · subst hv0
    have D3 := Lib.hid (D2.out.alloc (.cells ([0, 5, -1, 1, 9223372036854775807].map (Value.int .i64)).toArray 3))
    have hlg : ¬ w2.heap.size = g := by have := D2.out.lt; omega
    go_wp2_with fail
    refine (num_of _ B g w2.heap.size A cap zs _ 5 [0, 5, -1, 1, 9223372036854775807] D3.out (by omega) rfl (by decide) (by decide) hlg (row_lit w2 [0, 5, -1, 1, 9223372036854775807])).mono ?_
    rintro e w3 ⟨x, q3, rfl, hx, hq3, hrd3, hg3⟩
    have M3 := Lib.hid (Blk.grown (M2.out.alloc _) hg3 (by omega))
    have R3 := Lib.hid (Blk.grown (R2.out.alloc _) hg3 (by omega))
    have O3 := Lib.hid (own_far (O2.out.alloc _) hg3 hgb)
    have G3 := Lib.hid (grow_trans G2.out (grow_trans (World.grownBy_alloc w2 _ (some g)) hg3))
    have E3 := Lib.hid hrd3
    clear m0 m1 mf0 mf1 hg3 hrd3 D3
    obtain ⟨m0, m1⟩ := two_cells M3.out
    obtain ⟨mf0, mf1⟩ := two_frozen M3.out
    obtain ⟨c0, c1⟩ := two_cells R3.out
    obtain ⟨f0, f1⟩ := two_frozen R3.out
    have hMR : ¬ w.heap.size = R := by omega
    have hRM : ¬ R = w.heap.size := by omega
    go_wp2_with fail
    have HF := FIN.out (w3.setCell ⟨w.heap.size, 0, none⟩ (.int .i64 x)) x A0 n cap0 q3 vs hvl (by omega) (own_ap O3.out (grow_set w3 w.heap.size 0 _) (fun j hj => by have := hrow0 j hj; omega)) (fun j hj => by have := hrow0 j hj; omega) (R3.out.other w.heap.size 0 _ hMR) (by omega) (E3.out.grown (grow_set w3 w.heap.size 0 _) (fun j hj => by cases hj; omega)) (grow_own G3.out (grow_set w3 w.heap.size 0 _) (fun j hj => by cases hj; omega))
    refine bodyPost_ret (results_1 rfl (gives_mat (g := R) rfl HF.1)) rfl ?_
    exact HF.2
  · by_cases hv1 : v = 1
    · subst hv1
      have O2' := O2.out
      rw [← hvl] at O2'
      obtain ⟨_, _, he, _, hi⟩ := own_ints O2' (by unfold maxLen; omega)
      cases he
      obtain ⟨b, off, z, rfl, _, _, _, _⟩ := hi.at_ (k := 0) (by omega)
      have hsrc : Hid (∀ (o : Obj) (j : Nat) u, (vs.map (Value.int .i64))[j]? = some u → (w2.alloc o).cell? ((⟨b, off, none⟩ : Addr).add j) = some u) := by
        intro o j u hj
        rw [List.getElem?_map] at hj
        have hjn : j < vs.length := by
          rcases Nat.lt_or_ge j vs.length with h' | h'
          · exact h'
          · rw [List.getElem?_eq_none h'] at hj; cases hj
        rw [List.getElem?_eq_getElem hjn] at hj
        cases hj
        obtain ⟨b', off', z', he, _, hc, _, hz'⟩ := ((ints_al hi o).at_ (k := j) hjn)
        cases he
        rw [List.getD_eq_getElem?_getD, List.getElem?_eq_getElem hjn] at hz'
        have e : (⟨b, off, none⟩ : Addr).add j = ⟨b, off + j, none⟩ := by by_cases h0 : j = 0 <;> simp [Addr.add, h0]
        rw [e, hc]
        simp at hz'
        rw [hz']
      have OL := Lib.hid ((World.ownsRow_lit w2 #[] 0 (Nat.le_refl _) (Nat.zero_le _) rfl : (w2.alloc (.cells #[] 3)).ownsRow w2.heap.size 3 1 (.slice (some ⟨w2.heap.size, 0, none⟩) 0 0) 0 []))
      have m1' : ∀ o, (w2.alloc o).cell? ⟨w.heap.size, 1, none⟩ = some (.slice (some ⟨b, off, none⟩) n cap0) := fun o => (M2.out.alloc o).cell 1
      clear O2' hi
      go_wp2_with (at_builtin; refine wpList_append_own _ rfl _ _ 23 rfl w2.heap.size 3 i0 (.int .i64 0) 1 8 Tryd.underlying23 ZI.out Z0.out Z1.out Z2.out rfl (by decide) _ _ _ rfl OL.out ⟨b, off, none⟩ n cap0 (vs.map (Value.int .i64)) rfl ?c0 ?c1 ?c2 ?c3 ?c4 ?c5 ?_)
      case c0 => simp [hvl]
      case c1 => exact hsrc.out _
      case c2 => intro u hu; simp at hu; obtain ⟨x, _, rfl⟩ := hu; rfl
      case c3 => unfold maxLen; omega
      case c4 => omega
      case c5 => simp
      · intro v' w4 ho4 hg4 _
        have hg4' : (w2.alloc (.cells #[] 3)).grownBy w4 (some w2.heap.size) := hg4
        have hMs := Blk.lt M2.out
        have hDs := D2.out.lt
        have M4 := Lib.hid (Blk.grown (M2.out.alloc (.cells #[] 3)) hg4' (by omega))
        have R4 := Lib.hid (Blk.grown (R2.out.alloc (.cells #[] 3)) hg4' (by omega))
        have D4 := Lib.hid ((D2.out.alloc (.cells #[] 3)).grown hg4' (fun j hj => by cases hj; omega))
        have G4 := Lib.hid (grow_own (grow_trans G2.out (World.grownBy_alloc w2 (.cells #[] 3) (some g))) hg4' (fun j hj => by cases hj; have := G2.out.size; omega))
        have O4 := Lib.hid ho4
        have hs4 : w2.heap.size + 1 ≤ w4.heap.size := by have := hg4'.size; simp at this; omega
        clear m0 m1 mf0 mf1 m1' hsrc OL ho4 hg4 hg4'
        have m1' : ∀ o, (w4.alloc o).cell? ⟨w.heap.size, 1, none⟩ = some (.slice (some ⟨b, off, none⟩) n cap0) := fun o => (M4.out.alloc o).cell 1
        go_wp2_with (at_builtin; refine wpList_append_own _ rfl _ _ 23 rfl w2.heap.size 3 i0 (.int .i64 0) 1 8 Tryd.underlying23 ZI.out Z0.out Z1.out Z2.out rfl (by decide) _ _ _ rfl (O4.out.alloc _) ⟨w4.heap.size, 0, none⟩ 1 1 [.int .i64 0] rfl rfl ?e1 ?e2 ?e3 ?e4 ?e5 ?_)
        case e1 => exact lit_cell w4 0 _ _
        case e2 => intro u hu; simp at hu; subst hu; rfl
        case e3 => unfold maxLen; omega
        case e4 => omega
        case e5 => simp; omega
        · intro v'' w5 ho5 hg5 _
          have hrow : ∀ j, v'.ownBlock = some j → w2.heap.size ≤ j := fun j hj => (O4.out.lt j hj).1
          have M5 := Lib.hid (app_blk (m := 0) M4.out hg5 hMs hrow)
          have R5 := Lib.hid (app_blk (m := 0) R4.out hg5 hR2 hrow)
          have G5 := Lib.hid (grow_own (grow_trans G4.out (World.grownBy_alloc w4 (.cells #[.int .i64 0] 3) (some g))) hg5 (fun j hj => by have := hrow j hj; have := G2.out.size; omega))
          have D5 := Lib.hid ((D4.out.alloc (.cells #[.int .i64 0] 3)).grown hg5 (fun j hj => by have := hrow j hj; omega))
          have hl1 : (vs ++ [0]).length = n + 1 := by simp [hvl]
          have ho6 := own_cast ho5 hl1.symm (show _ = ((vs ++ [0]).map (Value.int .i64)) by rw [int_snoc])
          obtain ⟨A5, cap5, rfl⟩ := slice_own ho6 (by rw [hl1]; unfold maxLen; omega)
          rw [hl1] at ho6 ⊢
          have O5 := Lib.hid ho6
          clear ho5 hg5 ho6 m1'
          obtain ⟨m0, m1⟩ := two_cells M5.out
          obtain ⟨mf0, mf1⟩ := two_frozen M5.out
          obtain ⟨c0, c1⟩ := two_cells R5.out
          obtain ⟨f0, f1⟩ := two_frozen R5.out
          have hMR : ¬ w.heap.size = R := by omega
          have hRM : ¬ R = w.heap.size := by omega
          have hwb : base ≤ w2.heap.size := by have := G2.out.size; omega
          go_wp2_with fail
          have HF := FIN.out (w5.setCell ⟨w.heap.size, 1, none⟩ (.slice A5 (n + 1) cap5)) N A5 (n + 1) cap5 (q0 + 1) (vs ++ [0]) hl1 (by omega) (own_base (own_ap O5.out (grow_set w5 w.heap.size 1 _) (fun j hj => by have := (O5.out.lt j hj).1; omega)) hwb) (fun j hj => by have := (O5.out.lt j hj).1; omega) (R5.out.other w.heap.size 1 _ hMR) (by omega) (D5.out.grown (grow_set w5 w.heap.size 1 _) (fun j hj => by cases hj; omega)) (grow_own G5.out (grow_set w5 w.heap.size 1 _) (fun j hj => by cases hj; omega))
          refine bodyPost_ret (results_1 rfl (gives_mat (g := R) rfl HF.1)) rfl ?_
          exact HF.2
    · by_cases hv2 : v = 2
      · subst hv2
        have O2' := O2.out
        rw [← hvl] at O2'
        obtain ⟨_, _, he, hnc, hi⟩ := own_ints O2' (by unfold maxLen; omega)
        cases he
        obtain ⟨b, off, z, rfl, _, _, _, _⟩ := hi.at_ (k := 0) (by omega)
        obtain ⟨o2, ho2⟩ : ∃ o2, o2 = if cap0 = 1 then off else off + 1 := ⟨_, rfl⟩
        have hif : (if cap0 = 1 then some (⟨b, off, none⟩ : Addr) else some ⟨b, off + 1, none⟩) = some ⟨b, o2, none⟩ := by rw [ho2]; split <;> rfl
        have hsrc : Hid (∀ (w' : World), w2.grownBy w' (some g) → b ≠ g → ∀ (j : Nat) u, (vs.tail.map (Value.int .i64))[j]? = some u → w'.cell? ((⟨b, o2, none⟩ : Addr).add j) = some u) := by
          intro w' hg' hbg j u hj
          rw [List.getElem?_map] at hj
          have hjn : j < vs.tail.length := by
            rcases Nat.lt_or_ge j vs.tail.length with h' | h'
            · exact h'
            · rw [List.getElem?_eq_none h'] at hj; cases hj
          have hjn' : j + 1 < vs.length := by simp at hjn; omega
          rw [List.getElem?_tail, List.getElem?_eq_getElem hjn'] at hj
          cases hj
          obtain ⟨b', off', z', he, hbs, hc, _, hz'⟩ := (hi.at_ (k := j + 1) hjn')
          cases he
          rw [List.getD_eq_getElem?_getD, List.getElem?_eq_getElem hjn'] at hz'
          rw [if_neg (by omega)] at ho2
          subst ho2
          have e : (⟨b, off + 1, none⟩ : Addr).add j = ⟨b, off + (j + 1), none⟩ := by by_cases h0 : j = 0 <;> simp [Addr.add, h0]; omega
          simp at hz'
          rw [e, hz']
          exact ((hg'.cell_far ⟨b, off + (j + 1), none⟩ hbs (by simpa using hbg))).trans hc
        have hbg : b ≠ g := by
          have h2 := (O2.out.lt b rfl).1
          omega
        have hDs := D2.out.lt
        have hMs := Blk.lt M2.out
        have D3 := Lib.hid ((D2.out.grown (grow_drew w2 none) (fun k hk => by cases hk)).alloc (.cells ([-1, 1000001].map (Value.int .i64)).toArray 3))
        have hlg : ¬ w2.heap.size = g := by omega
        have KS : Hid (∀ w', Blk w' w.heap.size 25 #[.int .i64 N, .slice (some ⟨b, off, none⟩) n cap0] → Hid (Blk w' w.heap.size 25 #[.int .i64 N, .slice (some ⟨b, off, none⟩) n cap0]) ∧ w'.cell? ⟨w.heap.size, 1, none⟩ = some (.slice (some ⟨b, off, none⟩) n cap0)) := fun w' h => ⟨h, h.cell 1⟩
        have hS0 := KS.out w2.drew M2.out
        have i1 : (1 : Int) ≤ (n : Int) := by omega
        have i2 : (n : Int) ≤ (cap0 : Int) := by omega
        have HIF := Lib.hid hif
        clear O2' hi hif ho2
        go_wp2_with fail
        refine wp_region_Z (S := fun w' => Hid (Blk w' w.heap.size 25 #[.int .i64 N, .slice (some ⟨b, off, none⟩) n cap0]) ∧ w'.cell? ⟨w.heap.size, 1, none⟩ = some (.slice (some ⟨b, off, none⟩) n cap0)) (by kernel_rfl) hS0 (fun hS => ?_)
        clear hS0
        refine wpAnyZ_take (i := 0) (v := ?vb0) rfl (by kernel_rfl) (by kernel_rfl) (by kernel_rfl) (by kernel_rfl) (fun _ _ _ h => h) (Or.inl ⟨by rfl, ?yb0⟩) (by with_reducible assumption) ?rb0
        case yb0 => (intro w hSw; (try dsimp only at hSw); go_simp; (try with_reducible rfl))
        simp only [Act.put, List.setIfInBounds_toArray]
        refine wpAnyZ_take (i := 4) (v := ?vb4) rfl (by kernel_rfl) (by kernel_rfl) (by kernel_rfl) (by kernel_rfl) (fun _ _ _ h => h) (Or.inl ⟨by rfl, ?yb4⟩) (by with_reducible assumption) ?rb4
        case yb4 => (intro w hSw; (try dsimp only at hSw); go_simp; (try with_reducible rfl))
        simp only [Act.put]
        refine wpAnyZ_take (i := 5) (v := ?vb5) rfl (by kernel_rfl) (by kernel_rfl) (by kernel_rfl) (by kernel_rfl) (fun _ _ _ h => h) (Or.inl ⟨by rfl, ?yb5⟩) (by with_reducible assumption) ?rb5
        case yb5 => (intro w hSw; (try dsimp only at hSw); go_simp; (try with_reducible rfl))
        simp only [Act.put]
        refine wpAnyZ_take (i := 6) (v := ?vb6) rfl (by kernel_rfl) (by kernel_rfl) (by kernel_rfl) (by kernel_rfl) (fun _ _ _ h => h) (Or.inl ⟨by rfl, ?yb6⟩) (by with_reducible assumption) ?rb6
        case yb6 => (intro w hSw; (try dsimp only at hSw); go_simp; (try with_reducible rfl))
        simp only [Act.put]
        refine wpAnyZ_step (i := 1) (by kernel_rfl) rfl ?_
        intro K1 hK1
        go_simp
        refine hK1.out _ _ (KS.out _ ((show Blk w2.drew w.heap.size 25 _ from M2.out).alloc _)) (fun hS1 => ?_)
        clear hK1 hS
        (try simp only [Act.put])
        refine wpAnyZ_step (i := 2) (by kernel_rfl) rfl ?_
        intro K2 hK2
        go_simp
        refine (num_of _ B g w2.heap.size A cap zs (q0 + 1) 2 [-1, 1000001] D3.out (by omega) rfl (by decide) (by decide) hlg (row_lit w2.drew [-1, 1000001])).mono ?_
        rintro e w4 ⟨x, q4, rfl, hx, hq4, hrd4, hg4⟩
        have M4 := Lib.hid (Blk.grown ((show Blk w2.drew w.heap.size 25 _ from M2.out).alloc (.cells ([-1, 1000001].map (Value.int .i64)).toArray 3)) hg4 (by omega))
        have R4 := Lib.hid (Blk.grown ((show Blk w2.drew R 25 _ from R2.out).alloc (.cells ([-1, 1000001].map (Value.int .i64)).toArray 3)) hg4 (by omega))
        have H4 := Lib.hid (grow_trans (grow_trans (grow_drew w2 (some g)) (World.grownBy_alloc w2.drew (.cells ([-1, 1000001].map (Value.int .i64)).toArray 3) (some g))) hg4)
        have D4 := Lib.hid hrd4
        have hs4 : w2.heap.size + 1 ≤ w4.heap.size := by have := hg4.size; simp at this; omega
        have OL := Lib.hid ((World.ownsRow_lit w4 #[.int .i64 x] 1 (Nat.le_refl _) (by decide) rfl : (w4.alloc (.cells #[.int .i64 x] 3)).ownsRow w4.heap.size 3 1 (.slice (some ⟨w4.heap.size, 0, none⟩) 1 1) 1 [.int .i64 x]))
        refine hK2.out _ _ (KS.out _ M4.out) (fun hS2 => ?_)
        clear hK2 hS1 hrd4 hg4 hx D3
        (try simp only [Act.put])
        refine wpAnyZ_step (i := 3) (by kernel_rfl) rfl ?_
        intro K3 hK3
        go_simp
        refine hK3.out _ _ (KS.out _ (M4.out.alloc _)) (fun hS3 => ?_)
        clear hK3 hS2
        (try simp only [Act.put])
        refine wpAnyZ_step (i := 7) (by kernel_rfl) rfl ?_
        intro K4 hK4
        refine step_append_any rfl _ _ 23 rfl w4.heap.size 3 i0 (.int .i64 0) 1 8 Tryd.underlying23 ZI.out Z0.out Z1.out Z2.out rfl (by decide) _ 1 _ rfl OL.out ⟨b, o2, none⟩ (n - 1) (cap0 - 1) (vs.tail.map (Value.int .i64)) (show Value.slice (if cap0 = 1 then some ⟨b, off, none⟩ else some ⟨b, off + 1, none⟩) (n - 1) (cap0 - 1) = .slice (some ⟨b, o2, none⟩) (n - 1) (cap0 - 1) by rw [HIF.out]) (by simp; omega) (hsrc.out _ (grow_trans H4.out (World.grownBy_alloc w4 _ _)) hbg) (by intro u hu; obtain ⟨y, _, rfl⟩ := List.mem_map.1 hu; rfl) (by unfold maxLen; omega) (by omega) (by simp) ?_
        intro v'' w5 ho5 hg5
        have hg5' : (w4.alloc (.cells #[.int .i64 x] 3)).grownBy w5 (some w4.heap.size) := hg5
        have M5 := Lib.hid (Blk.grown (M4.out.alloc (.cells #[.int .i64 x] 3)) hg5' (by omega))
        have R5 := Lib.hid (Blk.grown (R4.out.alloc (.cells #[.int .i64 x] 3)) hg5' (by omega))
        have D5 := Lib.hid ((D4.out.alloc (.cells #[.int .i64 x] 3)).grown hg5' (fun j hj => by cases hj; omega))
        have G5 := Lib.hid (grow_own (grow_trans (grow_trans G2.out H4.out) (World.grownBy_alloc w4 (.cells #[.int .i64 x] 3) (some g))) hg5' (fun j hj => by cases hj; have := G2.out.size; omega))
        have hl1 : (x :: vs.tail).length = n := by simp; omega
        have ho6 := own_cast ho5 (show _ = (x :: vs.tail).length by rw [hl1]; omega) (show _ = ((x :: vs.tail).map (Value.int .i64)) by rfl)
        obtain ⟨A5, cap5, rfl⟩ := slice_own ho6 (by rw [hl1]; unfold maxLen; omega)
        rw [hl1] at ho6 ⊢
        have O5 := Lib.hid ho6
        refine hK4.out _ _ (KS.out _ M5.out) (fun hS4 => ?_)
        clear hK4 hS3 ho5 hg5 ho6 hg5' OL hsrc
        (try simp only [Act.put])
        refine wpAnyZ_take (i := 8) (v := ?vc8) rfl (by kernel_rfl) (by kernel_rfl) (by kernel_rfl) (by kernel_rfl) (fun _ _ _ h => h) (Or.inl ⟨by rfl, ?yc8⟩) (by with_reducible assumption) ?rc8
        case yc8 => (intro w hSw; (try dsimp only at hSw); go_simp; (try with_reducible rfl))
        simp only [Act.put]
        clear hS4
        obtain ⟨m0, m1⟩ := two_cells M5.out
        obtain ⟨mf0, mf1⟩ := two_frozen M5.out
        obtain ⟨c0, c1⟩ := two_cells R5.out
        obtain ⟨f0, f1⟩ := two_frozen R5.out
        have hMR : ¬ w.heap.size = R := by omega
        have hRM : ¬ R = w.heap.size := by omega
        have hwb : base ≤ w4.heap.size := by have := G2.out.size; omega
        refine wpAnyZ_last (i := 9) (by kernel_rfl) rfl (by kernel_rfl) ?_
        intro K5 hK5
        go_simp
        refine hK5.out _ _ ?_
        clear hK5
        have HF := Lib.hid (FIN.out (w5.setCell ⟨w.heap.size, 1, none⟩ (.slice A5 n cap5)) N A5 n cap5 q4 (x :: vs.tail) hl1 (by omega) (own_base (own_ap O5.out (grow_set w5 w.heap.size 1 _) (fun j hj => by have := (O5.out.lt j hj).1; omega)) hwb) (fun j hj => by have := (O5.out.lt j hj).1; omega) (R5.out.other w.heap.size 1 _ hMR) (by omega) (D5.out.grown (grow_set w5 w.heap.size 1 _) (fun j hj => by cases hj; omega)) (grow_own G5.out (grow_set w5 w.heap.size 1 _) (fun j hj => by cases hj; omega)))
        go_wp2_with fail
        all_goals
          refine bodyPost_ret (results_1 rfl (gives_mat (g := R) rfl HF.out.1)) rfl ?_
          exact HF.out.2
      · have b0 : (v == 0) = false := by rw [beq_eq_false_iff_ne]; exact hv0
        have b1 : (v == 1) = false := by rw [beq_eq_false_iff_ne]; exact hv1
        have b2 : (v == 2) = false := by rw [beq_eq_false_iff_ne]; exact hv2
        obtain ⟨c0, c1⟩ := two_cells R2.out
        obtain ⟨f0, f1⟩ := two_frozen R2.out
        go_wp2_with fail
        have HF := FIN.out w2 N A0 n cap0 (q0 + 1) vs hvl (by omega) O2.out (fun j hj => by have := hrow0 j hj; omega) R2.out (by omega) D2.out G2.out
        refine bodyPost_ret (results_1 rfl (gives_mat (g := R) rfl HF.1)) rfl ?_
        exact HF.2
theorem l2Bad_any (w : World) (base B g : Nat) (A : Option Addr) (cap : Nat) (zs : List Int) (q0 : Nat) (N : Int) (n : Nat) (A0 : Option Addr) (cap0 : Nat) (vs : List Int) (h : Rd w B g A cap zs q0) (hq0 : q0 + 2 ≤ 1000000000000) (hvl : vs.length = n) (n1 : 1 ≤ n) (n2 : n ≤ 17)
    (ho : w.ownsRow base 3 1 (.slice A0 n cap0) n (vs.map (Value.int .i64))) (hgb : g < base) (hbw : base ≤ w.heap.size) :
    Calls Tryd.prog 34 #[.pointer (some ⟨g, 0, none⟩), .agg #[.int .i64 N, .slice A0 n cap0]] w fun e w' => DrawnA base B g A cap zs q0 2 w e w' :=
  l2Bad_anyL 18 (by omega) w base B g A cap zs q0 N n A0 cap0 vs h hq0 hvl n1 (by omega) ho hgb hbw
end Go.Proofs.YtonnolpjfjbjpaaDoor
