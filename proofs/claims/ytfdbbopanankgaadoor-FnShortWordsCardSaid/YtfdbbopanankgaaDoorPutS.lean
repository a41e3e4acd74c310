/- The model's step put into steps in order, whichever move it has: a row of its own, in order again. Conditions: states below four, letters that are letters; at most a thousand steps, in order. The model's step put into steps in order, where one of them has its move: a copy with the lesser cost in its place. Conditions: states below four, letters that are letters; at most a thousand steps, in order. The model's step put into steps in order, where none of them has its move: a new slice with it in its place. Conditions: states below four, letters that are letters; at most a thousand steps. -/
import Derived.Test.YtfdbbopanankgaaDoorPutP
import Derived.Test.YtfdbbopanankgaaDoorOwnA
import Derived.Test.YtfdbbopanankgaaDoorValD
namespace Go.Proofs.YtfdbbopanankgaaDoor
open Go.RowKit
set_option maxHeartbeats 8000000
set_option maxRecDepth 100000
set_option linter.unusedVariables false

theorem step_app {P : Program} {ops : Array Oper} {o : Oper} {a : Act} {w : World} {K : Act → World → Prop} {Q : Exit → Act → World → Prop} {E : Prop} (hgd : o.guard = none) (s x : Operand) (t : TypeId)
    (ho : o.op = .call { callee := .builtin .append, args := #[s, x], argTypes := #[t, t] })
    (base : Nat) (e : TypeId) (i : TypeInfo) (z : Value) (size bytes : Nat) (ht : P.underlying t = some (.slice e)) (hi : P.info? e = some i) (hz : i.zero = some z)
    (hsize : i.size = size) (hby : i.bytes = bytes) (hzs : z.cells.size = size) (hsz : 0 < size)
    (v : Value) (n : Nat) (xs : List Value) (hs : a.eval s = v) (hown : w.ownsRow base e size v n xs)
    (ad : Addr) (m c : Nat) (news : List Value) (hx : a.eval x = .slice (some ad) m c) (hl : news.length = m * size) (hnews : ∀ j u, news[j]? = some u → w.cell? (ad.add j) = some u) (h1 : ∀ u ∈ news, u.oneCell' = true)
    (h63 : n + m ≤ maxLen) (hbytes : (n + m) * bytes ≤ 140737488355328) (hbase : base ≤ w.heap.size)
    (h : ∀ v' w', w'.ownsRow base e size v' (n + m) (xs ++ news) → w.grownBy w' v.ownBlock → K (a.put o.dst v') w') :
    if Region.wanted o (yielded ops a.tmps) = true then Oper.wp P o a w K Q else E := by
  have hw : Region.wanted o (yielded ops a.tmps) = true := by simp [Region.wanted, hgd]
  rw [if_pos hw]
  obtain ⟨v', w', hr, h2, h3, _⟩ := run_append_own (P := P) w base t o.type e i z size bytes ht hi hz hsize hby hzs hsz v n xs hown ad m c news hl hnews h1 h63 hbytes hbase
  unfold Oper.wp execOp
  simp only [ho, resolve, invoke, builtin, Sem.run_bind, Sem.run_pure, Result.andThen_ok, List.map_toArray, List.map_cons, List.map_nil, hs, hx, hr]
  exact h v' w' h2 h3
theorem flatS_app (us vs : List StepD) : flatS (us ++ vs) = flatS us ++ flatS vs := by
  induction us with
  | nil => rfl
  | cons t ts ih => simp [flatS, ih]
theorem flatS_cons (s : StepD) (vs : List StepD) : flatS (s :: vs) = stepC s ++ flatS vs := by simp [flatS, stepC]
theorem one_stepC (s : StepD) : ∀ u ∈ stepC s, u.oneCell' = true := fun u hu => by
  simp [stepC] at hu
  rcases hu with rfl | rfl | rfl | rfl <;> rfl
theorem SX.rowT {w : World} {g k : Nat} {t : TypeId} {l : List StepD} {ex : List Value} (h : SX w g t l ex) (hk : k ≤ l.length) (hl : l.length ≤ 1000) (hs : ∀ s ∈ l, s.le.size ≤ 9223372036854775807) : SRow w w.heap.size (some ⟨g, 0, none⟩) (l.take k) :=
  ⟨by rw [List.length_take]; omega, fun s hm => hs s (List.mem_of_mem_take hm), fun _ => ⟨g, 0, rfl, Blk.lt h, fun i hi => by
    rw [List.length_take] at hi
    rw [Nat.zero_add, show (l.take k).getD i default = l.getD i default by rw [List.getD_eq_getElem?_getD, List.getD_eq_getElem?_getD, List.getElem?_take_of_lt (by omega)]]
    exact h.at_ (by omega)⟩⟩
theorem SX.rowD {w : World} {g k c : Nat} {t : TypeId} {l : List StepD} {ex : List Value} (h : SX w g t l ex) (hk : k ≤ l.length) (hc : l.length ≤ c) (hl : l.length ≤ 1000) (hs : ∀ s ∈ l, s.le.size ≤ 9223372036854775807) : SRow w w.heap.size (some (if c = k then ⟨g, 0, none⟩ else ⟨g, k * 4, none⟩)) (l.drop k) :=
  ⟨by rw [List.length_drop]; omega, fun s hm => hs s (List.mem_of_mem_drop hm), fun h0 => by
    rw [List.length_drop] at h0
    rw [if_neg (by omega)]
    refine ⟨g, k * 4, rfl, Blk.lt h, fun i hi => ?_⟩
    rw [List.length_drop] at hi
    rw [show (l.drop k).getD i default = l.getD (k + i) default by rw [List.getD_eq_getElem?_getD, List.getD_eq_getElem?_getD, List.getElem?_drop], ← Nat.add_mul]
    exact h.at_ (by omega)⟩
theorem ite_some {c : Prop} [Decidable c] {α : Type} (a b : α) : (if c then some a else some b) = some (if c then a else b) := by split <;> rfl
theorem own_nil (w : World) (t : TypeId) (d : Nat) : ((w.alloc (.cells #[] t)).drewN d).ownsRow w.heap.size t 4 (.slice (some ⟨w.heap.size, 0, none⟩) 0 0) 0 [] := World.ownsRow_made w #[] 0 (Nat.le_refl _) (by unfold maxLen; omega) rfl
theorem put_any (g cap n B : Nat) (l : List StepD) (s : StepD) (w : World) (h : w.ownsRow B 75 4 (.slice (some ⟨g, 0, none⟩) n cap) n (flatS l)) (hn : l.length = n) (hn1 : n ≤ 1000) (hm : ∀ t ∈ l, mvOk t) (hs : mvOk s) (hne : ∀ t ∈ l, ¬ code t = code s) :
    Calls Tryd.prog 44 #[.slice (some ⟨g, 0, none⟩) n cap, stepV s] w fun e w' => ∃ g' cap', e = .returned (.slice (some ⟨g', 0, none⟩) (n + 1) cap') ∧ Hid (w'.ownsRow w.heap.size 75 4 (.slice (some ⟨g', 0, none⟩) (n + 1) cap') (n + 1) (flatS (putL l s))) ∧ Hid (Below w.heap.size w w') := by
  obtain ⟨j0, kj, kz0, kz1, kz2⟩ := info_step'
  have Y0 := Lib.hid kz0
  have Y1 := Lib.hid kz1
  have Y2 := Lib.hid kz2
  have YI := Lib.hid kj
  obtain ⟨ex, hx, hxl, hnc, hcm, _, _⟩ := SX.own h
  have HX := Lib.hid hx
  have HL := Lib.hid hn
  have HM := Lib.hid hm
  have HS := Lib.hid hs
  have HN := Lib.hid hne
  have hgw := Blk.lt hx
  clear kz0 kz1 kz2 kj h hx hxl hm hs hne hn
  unfold stepV
  go_enter Tryd.func44, Tryd.ntmps44
  go_upto_region 1 with fail
  obtain ⟨P, hP⟩ : ∃ P, P = w.heap.size := ⟨_, rfl⟩
  obtain ⟨w1, hw1⟩ : ∃ w1, w1 = w.alloc (.cells #[.int .i64 s.fr, .string s.le, .int .i64 s.to_, .int .i64 s.co] 75) := ⟨_, rfl⟩
  have P1 : Hid (Blk w1 P 75 #[.int .i64 s.fr, .string s.le, .int .i64 s.to_, .int .i64 s.co]) := by rw [hw1, hP]; exact Blk.new _ _ _
  have B1 : Hid (Below w.heap.size w w1) := by rw [hw1]; exact below_a1 w _
  have X1 : Hid (SX w1 g 75 l ex) := Lib.hid (HX.out.below B1.out)
  rw [← hw1, ← hP]
  have hwP : w.heap.size ≤ P := by omega
  have hw1s : w.heap.size ≤ w1.heap.size := B1.out.size
  clear hw1 hP HX
  go_wp2_with fail
  go_loopw [5] (fun a wr => ∃ k : Nat, k ≤ n ∧ a = .int .i64 k ∧ Hid (∀ j, j < k → befS (l.getD j default) s = true) ∧ Hid (Below w1.heap.size w1 wr)) (fun a _ => n - (intOf a).toNat)
  case atStart => exact ⟨0, Nat.zero_le _, rfl, fun j hj => absurd hj (Nat.not_lt_zero _), Below.refl _ _⟩
  case round =>
    obtain ⟨k, hk, rfl, hbe, hbw⟩ := hrel
    have Pr := Lib.hid (blk_b P1.out hbw.out)
    have Xr := Lib.hid (X1.out.below hbw.out)
    have hk0 : (0 : Int) ≤ (k : Int) := by omega
    by_cases hlt : k < n
    · have hk1 : (k : Int) < (n : Int) := by omega
      obtain ⟨x, hxg⟩ : ∃ x, l.getD k default = x := ⟨_, rfl⟩
      have hxm : x ∈ l := by rw [← hxg, List.getD_eq_getElem?_getD, List.getElem?_eq_getElem (by rw [HL.out]; exact hlt)]; simp
      have HXM := Lib.hid hxm
      have HXG := Lib.hid hxg
      obtain ⟨r, hr⟩ : ∃ r, befS x s = r := ⟨_, rfl⟩
      have HR := Lib.hid hr
      have LX := Lib.hid (HM.out x hxm).2.2.2.2
      have LS := Lib.hid HS.out.2.2.2.2
      have K2 : Hid (∀ w', Below wr.heap.size wr w' → (Hid (Below wr.heap.size wr w') ∧ w'.cell? ⟨g, k * 4, none⟩ = some (.int .i64 x.fr) ∧ w'.cell? ⟨g, k * 4 + 1, none⟩ = some (.string x.le) ∧ w'.cell? ⟨g, k * 4 + 2, none⟩ = some (.int .i64 x.to_) ∧ w'.cell? ⟨g, k * 4 + 3, none⟩ = some (.int .i64 x.co) ∧ w'.cell? ⟨P, 0, none⟩ = some (.int .i64 s.fr) ∧ w'.cell? ⟨P, 1, none⟩ = some (.string s.le) ∧ w'.cell? ⟨P, 2, none⟩ = some (.int .i64 s.to_) ∧ w'.cell? ⟨P, 3, none⟩ = some (.int .i64 s.co))) := fun w' h => by
        have a := (Xr.out.below h).at_ (k := k) (by rw [HL.out]; exact hlt)
        rw [HXG.out] at a
        have p := blk_b Pr.out h
        exact ⟨h, a.1, a.2.1, a.2.2.1, a.2.2.2, p.cell 0, p.cell 1, p.cell 2, p.cell 3⟩
      clear hxg hxm hr
      have hS0 := K2.out wr.drew ((Below.refl _ _).drew)
      go_upto_region 2 with fail
      go_cut [5, 18] (fun a b wx => a = .int .i64 k ∧ b = .bool r ∧ Hid (Below wr.heap.size wr wx))
      case first =>
        refine wp_region_Z (S := fun w' => Hid (Below wr.heap.size wr w') ∧ w'.cell? ⟨g, k * 4, none⟩ = some (.int .i64 x.fr) ∧ w'.cell? ⟨g, k * 4 + 1, none⟩ = some (.string x.le) ∧ w'.cell? ⟨g, k * 4 + 2, none⟩ = some (.int .i64 x.to_) ∧ w'.cell? ⟨g, k * 4 + 3, none⟩ = some (.int .i64 x.co) ∧ w'.cell? ⟨P, 0, none⟩ = some (.int .i64 s.fr) ∧ w'.cell? ⟨P, 1, none⟩ = some (.string s.le) ∧ w'.cell? ⟨P, 2, none⟩ = some (.int .i64 s.to_) ∧ w'.cell? ⟨P, 3, none⟩ = some (.int .i64 s.co)) (by kernel_rfl) hS0 (fun hS => ?_)
        clear hS0
        refine wpAnyZ_take (i := 0) (v := ?va0) rfl (by kernel_rfl) (by kernel_rfl) (by kernel_rfl) (by kernel_rfl) (fun _ _ _ h => h) (Or.inl ⟨by kernel_rfl, ?ya0⟩) (by with_reducible assumption) ?ra0
        case ya0 => (intro w hSw; (try dsimp only at hSw); go_simp; (try with_reducible rfl))
        simp only [Act.put, List.setIfInBounds_toArray]
        refine wpAnyZ_take (i := 1) (v := ?va1) rfl (by kernel_rfl) (by kernel_rfl) (by kernel_rfl) (by kernel_rfl) (fun _ _ _ h => h) (Or.inl ⟨by kernel_rfl, ?ya1⟩) (by with_reducible assumption) ?ra1
        case ya1 => (intro w hSw; (try dsimp only at hSw); go_simp; (try with_reducible rfl))
        simp only [Act.put]
        refine wpAnyZ_take (i := 2) (v := ?va2) rfl (by kernel_rfl) (by kernel_rfl) (by kernel_rfl) (by kernel_rfl) (fun _ _ _ h => h) (Or.inl ⟨by kernel_rfl, ?ya2⟩) (by with_reducible assumption) ?ra2
        case ya2 => (intro w hSw; (try dsimp only at hSw); go_simp; (try with_reducible rfl))
        simp only [Act.put]
        refine wpAnyZ_take (i := 3) (v := ?va3) rfl (by kernel_rfl) (by kernel_rfl) (by kernel_rfl) (by kernel_rfl) (fun _ _ _ h => h) (Or.inl ⟨by kernel_rfl, ?ya3⟩) (by with_reducible assumption) ?ra3
        case ya3 => (intro w hSw; (try dsimp only at hSw); go_simp; (try with_reducible rfl))
        simp only [Act.put]
        refine wpAnyZ_take (i := 4) (v := ?va4) rfl (by kernel_rfl) (by kernel_rfl) (by kernel_rfl) (by kernel_rfl) (fun _ _ _ h => h) (Or.inl ⟨by kernel_rfl, ?ya4⟩) (by with_reducible assumption) ?ra4
        case ya4 => (intro w hSw; (try dsimp only at hSw); go_simp; (try with_reducible rfl))
        simp only [Act.put]
        refine wpAnyZ_take (i := 5) (v := ?va5) rfl (by kernel_rfl) (by kernel_rfl) (by kernel_rfl) (by kernel_rfl) (fun _ _ _ h => h) (Or.inl ⟨by kernel_rfl, ?ya5⟩) (by with_reducible assumption) ?ra5
        case ya5 => (intro w hSw; (try dsimp only at hSw); go_simp; (try with_reducible rfl))
        simp only [Act.put]
        refine wpAnyZ_take (i := 6) (v := ?va6) rfl (by kernel_rfl) (by kernel_rfl) (by kernel_rfl) (by kernel_rfl) (fun _ _ _ h => h) (Or.inl ⟨by kernel_rfl, ?ya6⟩) (by with_reducible assumption) ?ra6
        case ya6 => (intro w hSw; (try dsimp only at hSw); go_simp; (try with_reducible rfl))
        simp only [Act.put]
        refine wpAnyZ_take (i := 7) (v := ?va7) rfl (by kernel_rfl) (by kernel_rfl) (by kernel_rfl) (by kernel_rfl) (fun _ _ _ h => h) (Or.inl ⟨by kernel_rfl, ?ya7⟩) (by with_reducible assumption) ?ra7
        case ya7 => (intro w hSw; (try dsimp only at hSw); go_simp; (try with_reducible rfl))
        simp only [Act.put]
        refine wpAnyZ_take (i := 8) (v := ?va8) rfl (by kernel_rfl) (by kernel_rfl) (by kernel_rfl) (by kernel_rfl) (fun _ _ _ h => h) (Or.inl ⟨by kernel_rfl, ?ya8⟩) (by with_reducible assumption) ?ra8
        case ya8 => (intro w hSw; (try dsimp only at hSw); go_simp; (try with_reducible rfl))
        simp only [Act.put]
        refine wpAnyZ_take (i := 9) (v := ?va9) rfl (by kernel_rfl) (by kernel_rfl) (by kernel_rfl) (by kernel_rfl) (fun _ _ _ h => h) (Or.inl ⟨by kernel_rfl, ?ya9⟩) (by with_reducible assumption) ?ra9
        case ya9 => (intro w hSw; (try dsimp only at hSw); go_simp; (try with_reducible rfl))
        simp only [Act.put]
        refine wpAnyZ_step (i := 10) (by kernel_rfl) rfl (fun K3 hK3 => ?_)
        go_simp
        refine (l3Before_is x s r _ LX.out LS.out HR.out).mono ?_
        rintro e wb ⟨rfl, hbb⟩
        have Bb := Lib.hid (below_on hS.1.out hbb.out)
        refine hK3.out _ _ (K2.out _ Bb.out) (fun hS1 => ?_)
        clear hK3
        refine wpAnyZ_last (i := 11) (by kernel_rfl) rfl (by kernel_rfl) (fun K4 hK4 => ?_)
        go_simp
        refine hK4.out _ _ ?_
        clear hK4
        go_wp2_with fail
        go_meet
        exact ⟨rfl, rfl, Bb⟩
      case rest =>
        obtain ⟨rfl, rfl, hbx⟩ := hcut
        generalize wc = wx at hbx ⊢
        have Bx := Lib.hid (below_on hbw.out hbx.out)
        cases r
        · have Px := Lib.hid (blk_b P1.out Bx.out)
          have Xx := Lib.hid (X1.out.below Bx.out)
          clear hS0 K2 Pr Xr hbx hbw
          have hcx : code x < code s ∨ code s < code x := by have := HN.out x HXM.out; omega
          have hxs : befS s x = true := by
            have h1 := HR.out
            rw [bef_code (HM.out x HXM.out) HS.out] at h1
            rw [bef_code HS.out (HM.out x HXM.out)]
            simp at h1 ⊢
            omega
          have HXS := Lib.hid hxs
          have HE : Hid (putL l s = l.take k ++ s :: l.drop k) := by
            show _ = _
            rw [putL_at k l s (by rw [HL.out]; omega) hbe.out (Or.inr (by rw [HXG.out]; exact HR.out)), if_neg (by rw [HXG.out, hxs]; simp)]
          clear hcx hxs
          have K4 : Hid (∀ w', Below wx.heap.size wx w' → (Hid (Below wx.heap.size wx w') ∧ w'.cell? ⟨g, k * 4, none⟩ = some (.int .i64 x.fr) ∧ w'.cell? ⟨g, k * 4 + 1, none⟩ = some (.string x.le) ∧ w'.cell? ⟨g, k * 4 + 2, none⟩ = some (.int .i64 x.to_) ∧ w'.cell? ⟨g, k * 4 + 3, none⟩ = some (.int .i64 x.co) ∧ w'.cell? ⟨P, 0, none⟩ = some (.int .i64 s.fr) ∧ w'.cell? ⟨P, 1, none⟩ = some (.string s.le) ∧ w'.cell? ⟨P, 2, none⟩ = some (.int .i64 s.to_) ∧ w'.cell? ⟨P, 3, none⟩ = some (.int .i64 s.co))) := fun w' h => by
            have a := (Xx.out.below h).at_ (k := k) (by rw [HL.out]; exact hlt)
            rw [HXG.out] at a
            have p := blk_b Px.out h
            exact ⟨h, a.1, a.2.1, a.2.2.1, a.2.2.2, p.cell 0, p.cell 1, p.cell 2, p.cell 3⟩
          have hS0 := K4.out wx.drew ((Below.refl _ _).drew)
          go_upto_region 4 with fail
          go_cut [5, 33] (fun a b wy => a = .int .i64 k ∧ b = .bool false ∧ Hid (Below wx.heap.size wx wy))
          case first =>
            refine wp_region_Z (S := fun w' => Hid (Below wx.heap.size wx w') ∧ w'.cell? ⟨g, k * 4, none⟩ = some (.int .i64 x.fr) ∧ w'.cell? ⟨g, k * 4 + 1, none⟩ = some (.string x.le) ∧ w'.cell? ⟨g, k * 4 + 2, none⟩ = some (.int .i64 x.to_) ∧ w'.cell? ⟨g, k * 4 + 3, none⟩ = some (.int .i64 x.co) ∧ w'.cell? ⟨P, 0, none⟩ = some (.int .i64 s.fr) ∧ w'.cell? ⟨P, 1, none⟩ = some (.string s.le) ∧ w'.cell? ⟨P, 2, none⟩ = some (.int .i64 s.to_) ∧ w'.cell? ⟨P, 3, none⟩ = some (.int .i64 s.co)) (by kernel_rfl) hS0 (fun hS => ?_)
            clear hS0
            refine wpAnyZ_take (i := 0) (v := ?vb0) rfl (by kernel_rfl) (by kernel_rfl) (by kernel_rfl) (by kernel_rfl) (fun _ _ _ h => h) (Or.inl ⟨by kernel_rfl, ?yb0⟩) (by with_reducible assumption) ?rb0
            case yb0 => (intro w hSw; (try dsimp only at hSw); go_simp; (try with_reducible rfl))
            simp only [Act.put, List.setIfInBounds_toArray]
            refine wpAnyZ_take (i := 1) (v := ?vb1) rfl (by kernel_rfl) (by kernel_rfl) (by kernel_rfl) (by kernel_rfl) (fun _ _ _ h => h) (Or.inl ⟨by kernel_rfl, ?yb1⟩) (by with_reducible assumption) ?rb1
            case yb1 => (intro w hSw; (try dsimp only at hSw); go_simp; (try with_reducible rfl))
            simp only [Act.put]
            refine wpAnyZ_take (i := 2) (v := ?vb2) rfl (by kernel_rfl) (by kernel_rfl) (by kernel_rfl) (by kernel_rfl) (fun _ _ _ h => h) (Or.inl ⟨by kernel_rfl, ?yb2⟩) (by with_reducible assumption) ?rb2
            case yb2 => (intro w hSw; (try dsimp only at hSw); go_simp; (try with_reducible rfl))
            simp only [Act.put]
            refine wpAnyZ_take (i := 3) (v := ?vb3) rfl (by kernel_rfl) (by kernel_rfl) (by kernel_rfl) (by kernel_rfl) (fun _ _ _ h => h) (Or.inl ⟨by kernel_rfl, ?yb3⟩) (by with_reducible assumption) ?rb3
            case yb3 => (intro w hSw; (try dsimp only at hSw); go_simp; (try with_reducible rfl))
            simp only [Act.put]
            refine wpAnyZ_take (i := 4) (v := ?vb4) rfl (by kernel_rfl) (by kernel_rfl) (by kernel_rfl) (by kernel_rfl) (fun _ _ _ h => h) (Or.inl ⟨by kernel_rfl, ?yb4⟩) (by with_reducible assumption) ?rb4
            case yb4 => (intro w hSw; (try dsimp only at hSw); go_simp; (try with_reducible rfl))
            simp only [Act.put]
            refine wpAnyZ_take (i := 5) (v := ?vb5) rfl (by kernel_rfl) (by kernel_rfl) (by kernel_rfl) (by kernel_rfl) (fun _ _ _ h => h) (Or.inl ⟨by kernel_rfl, ?yb5⟩) (by with_reducible assumption) ?rb5
            case yb5 => (intro w hSw; (try dsimp only at hSw); go_simp; (try with_reducible rfl))
            simp only [Act.put]
            refine wpAnyZ_take (i := 6) (v := ?vb6) rfl (by kernel_rfl) (by kernel_rfl) (by kernel_rfl) (by kernel_rfl) (fun _ _ _ h => h) (Or.inl ⟨by kernel_rfl, ?yb6⟩) (by with_reducible assumption) ?rb6
            case yb6 => (intro w hSw; (try dsimp only at hSw); go_simp; (try with_reducible rfl))
            simp only [Act.put]
            refine wpAnyZ_take (i := 7) (v := ?vb7) rfl (by kernel_rfl) (by kernel_rfl) (by kernel_rfl) (by kernel_rfl) (fun _ _ _ h => h) (Or.inl ⟨by kernel_rfl, ?yb7⟩) (by with_reducible assumption) ?rb7
            case yb7 => (intro w hSw; (try dsimp only at hSw); go_simp; (try with_reducible rfl))
            simp only [Act.put]
            refine wpAnyZ_take (i := 8) (v := ?vb8) rfl (by kernel_rfl) (by kernel_rfl) (by kernel_rfl) (by kernel_rfl) (fun _ _ _ h => h) (Or.inl ⟨by kernel_rfl, ?yb8⟩) (by with_reducible assumption) ?rb8
            case yb8 => (intro w hSw; (try dsimp only at hSw); go_simp; (try with_reducible rfl))
            simp only [Act.put]
            refine wpAnyZ_take (i := 9) (v := ?vb9) rfl (by kernel_rfl) (by kernel_rfl) (by kernel_rfl) (by kernel_rfl) (fun _ _ _ h => h) (Or.inl ⟨by kernel_rfl, ?yb9⟩) (by with_reducible assumption) ?rb9
            case yb9 => (intro w hSw; (try dsimp only at hSw); go_simp; (try with_reducible rfl))
            simp only [Act.put]
            refine wpAnyZ_step (i := 10) (by kernel_rfl) rfl (fun K5 hK5 => ?_)
            go_simp
            refine (l3Before_is s x true _ LS.out LX.out HXS.out).mono ?_
            rintro e wb ⟨rfl, hbb⟩
            have Bb := Lib.hid (below_on hS.1.out hbb.out)
            refine hK5.out _ _ (K4.out _ Bb.out) (fun hS1 => ?_)
            clear hK5
            refine wpAnyZ_take (i := 11) (v := ?vb11) rfl (by kernel_rfl) (by kernel_rfl) (by kernel_rfl) (by kernel_rfl) (fun _ _ _ h => h) (Or.inl ⟨by kernel_rfl, ?yb11⟩) (by with_reducible assumption) ?rb11
            case yb11 => (intro w hSw; (try dsimp only at hSw); go_simp; (try with_reducible rfl))
            simp only [Act.put]
            refine wpAnyZ_last (i := 12) (by kernel_rfl) rfl (by kernel_rfl) (fun K6 hK6 => ?_)
            go_simp
            refine hK6.out _ _ ?_
            clear hK6
            go_wp2_with fail
            go_meet
            exact ⟨rfl, rfl, Bb⟩
          case rest =>
            obtain ⟨rfl, rfl, hby⟩ := hcut
            generalize wc = wy at hby ⊢
            have By := Lib.hid (below_on Bx.out hby.out)
            have Py := Lib.hid (blk_b P1.out By.out)
            have Xy := Lib.hid (X1.out.below By.out)
            clear hS0 K4 Px Xx hby Bx
            go_upto_region 8 with fail
            have hkn : k ≤ n := hk
            have hkc : k ≤ cap := by omega
            have HSZ : Hid (∀ t ∈ l, t.le.size ≤ 9223372036854775807) := fun t ht => by
              rcases (HM.out t ht).2.2.2.2 with h | h <;> rw [h] <;> decide
            have K8 : Hid (∀ w', Below wy.heap.size wy w' → (Hid (Below wy.heap.size wy w') ∧ w'.cell? ⟨P, 0, none⟩ = some (.int .i64 s.fr) ∧ w'.cell? ⟨P, 1, none⟩ = some (.string s.le) ∧ w'.cell? ⟨P, 2, none⟩ = some (.int .i64 s.to_) ∧ w'.cell? ⟨P, 3, none⟩ = some (.int .i64 s.co))) := fun w' h => by
              have p := blk_b Py.out h
              exact ⟨h, p.cell 0, p.cell 1, p.cell 2, p.cell 3⟩
            have By2 := Lib.hid (below_on B1.out By.out)
            have hwy := By2.out.size
            have hS0 := K8.out wy.drew ((Below.refl _ _).drew)
            refine wp_region_Z (S := fun w' => Hid (Below wy.heap.size wy w') ∧ w'.cell? ⟨P, 0, none⟩ = some (.int .i64 s.fr) ∧ w'.cell? ⟨P, 1, none⟩ = some (.string s.le) ∧ w'.cell? ⟨P, 2, none⟩ = some (.int .i64 s.to_) ∧ w'.cell? ⟨P, 3, none⟩ = some (.int .i64 s.co)) (by kernel_rfl) hS0 (fun hS => ?_)
            clear hS0
            refine wpAnyZ_take (i := 1) (v := ?vc1) rfl (by kernel_rfl) (by kernel_rfl) (by kernel_rfl) (by kernel_rfl) (fun _ _ _ h => h) (Or.inl ⟨by kernel_rfl, ?yc1⟩) (by with_reducible assumption) ?rc1
            case yc1 => (intro w hSw; (try dsimp only at hSw); go_simp; (try with_reducible rfl))
            simp only [Act.put, List.setIfInBounds_toArray]
            refine wpAnyZ_take (i := 2) (v := ?vc2) rfl (by kernel_rfl) (by kernel_rfl) (by kernel_rfl) (by kernel_rfl) (fun _ _ _ h => h) (Or.inl ⟨by kernel_rfl, ?yc2⟩) (by with_reducible assumption) ?rc2
            case yc2 => (intro w hSw; (try dsimp only at hSw); go_simp; (try with_reducible rfl))
            simp only [Act.put]
            refine wpAnyZ_take (i := 3) (v := ?vc3) rfl (by kernel_rfl) (by kernel_rfl) (by kernel_rfl) (by kernel_rfl) (fun _ _ _ h => h) (Or.inl ⟨by kernel_rfl, ?yc3⟩) (by with_reducible assumption) ?rc3
            case yc3 => (intro w hSw; (try dsimp only at hSw); go_simp; (try with_reducible rfl))
            simp only [Act.put]
            refine wpAnyZ_take (i := 5) (v := ?vc5) rfl (by kernel_rfl) (by kernel_rfl) (by kernel_rfl) (by kernel_rfl) (fun _ _ _ h => h) (Or.inl ⟨by kernel_rfl, ?yc5⟩) (by with_reducible assumption) ?rc5
            case yc5 => (intro w hSw; (try dsimp only at hSw); go_simp; (try with_reducible rfl))
            simp only [Act.put]
            refine wpAnyZ_take (i := 8) (v := ?vc8) rfl (by kernel_rfl) (by kernel_rfl) (by kernel_rfl) (by kernel_rfl) (fun _ _ _ h => h) (Or.inl ⟨by kernel_rfl, ?yc8⟩) (by with_reducible assumption) ?rc8
            case yc8 => (intro w hSw; (try dsimp only at hSw); go_simp; (try with_reducible rfl))
            simp only [Act.put]
            refine wpAnyZ_take (i := 9) (v := ?vc9) rfl (by kernel_rfl) (by kernel_rfl) (by kernel_rfl) (by kernel_rfl) (fun _ _ _ h => h) (Or.inl ⟨by kernel_rfl, ?yc9⟩) (by with_reducible assumption) ?rc9
            case yc9 => (intro w hSw; (try dsimp only at hSw); go_simp; (try with_reducible rfl))
            simp only [Act.put]
            refine wpAnyZ_take (i := 10) (v := ?vc10) rfl (by kernel_rfl) (by kernel_rfl) (by kernel_rfl) (by kernel_rfl) (fun _ _ _ h => h) (Or.inl ⟨by kernel_rfl, ?yc10⟩) (by with_reducible assumption) ?rc10
            case yc10 => (intro w hSw; (try dsimp only at hSw); go_simp; (try with_reducible rfl))
            simp only [Act.put]
            refine wpAnyZ_fork (rs := [0, 6]) (by kernel_rfl) (by decide) ?_
            intro i hi
            simp only [List.mem_cons, List.not_mem_nil, or_false] at hi
            rcases hi with rfl | rfl
            · refine ⟨_, rfl, fun K1 hK1 => ?_⟩
              go_simp
              have BA := Lib.hid (((Below.refl _ wy).alloc (Nat.le_refl _) (.cells #[] 75)).drew)
              have NA : Hid ((wy.alloc (.cells #[] 75)).drew.ownsRow wy.heap.size 75 4 (.slice (some ⟨wy.heap.size, 0, none⟩) 0 0) 0 []) := own_nil wy _ 1
              refine hK1.out _ _ (K8.out _ BA.out) (fun hS1 => ?_)
              clear hK1
              have hsA : wy.heap.size < ((wy.alloc (.cells #[] 75)).drew).heap.size := by show _ < (wy.alloc _).heap.size; simp
              generalize (wy.alloc (.cells #[] 75)).drew = wa at BA NA hsA hS1 ⊢
              refine wpAnyZ_fork (rs := [4, 6]) (by kernel_rfl) (by decide) ?_
              intro i hi
              simp only [List.mem_cons, List.not_mem_nil, or_false] at hi
              rcases hi with rfl | rfl
              · refine ⟨_, rfl, fun K2 hK2 => ?_⟩
                have BB := BA
                have N0 := NA
                have XT := Lib.hid ((Xy.out.below BB.out).rowT (k := k) (by rw [HL.out]; exact hkn) (by rw [HL.out]; exact hn1) HSZ.out)
                have hsB := BB.out.size
                refine step_app rfl _ _ 24 rfl wy.heap.size 75 j0 (.agg #[.int .i64 0, .string ByteArray.empty, .int .i64 0, .int .i64 0]) 4 40 Tryd.underlying24 YI.out Y0.out Y1.out Y2.out rfl (by decide) (.slice (some ⟨wy.heap.size, 0, none⟩) 0 0) 0 _ rfl N0.out ⟨g, 0, none⟩ k cap (flatS (l.take k)) rfl (by rw [flatS_len, List.length_take, HL.out]; congr 1; omega) (news_steps XT.out) (one_steps _) (by unfold maxLen; omega) (by omega) (by omega) ?_
                intro x4 w4 hown4 hg4
                have B4 := Lib.hid (BB.out.grown hg4 hsB (fun j hj => (N0.out.lt j hj).1))
                have hx4 : ∀ j, x4.ownBlock = some j → j < w4.heap.size := fun j hj => (hown4.lt j hj).2
                have hown4' := hown4
                rw [Nat.zero_add, List.nil_append] at hown4'
                have O4a := Lib.hid hown4'
                refine hK2.out _ _ (K8.out _ B4.out) (fun hS2 => ?_)
                clear hK2 hown4 hown4' hg4 BB N0 XT hsB
                refine wpAnyZ_step (i := 6) (by kernel_rfl) rfl (fun K3 hK3 => ?_)
                go_simp
                obtain ⟨L, hL⟩ : ∃ L, L = w4.heap.size := ⟨_, rfl⟩
                have BB := Lib.hid (B4.out.alloc B4.out.size (.cells #[.int .i64 s.fr, .string s.le, .int .i64 s.to_, .int .i64 s.co] 75))
                have O4 := Lib.hid (O4a.out.alloc (.cells #[.int .i64 s.fr, .string s.le, .int .i64 s.to_, .int .i64 s.co] 75))
                have LB : Hid ((w4.alloc (.cells #[.int .i64 s.fr, .string s.le, .int .i64 s.to_, .int .i64 s.co] 75)).heap[L]? = some (.cells #[.int .i64 s.fr, .string s.le, .int .i64 s.to_, .int .i64 s.co] 75 (0, 0))) := by rw [hL]; exact Lib.hid (heap_alloc_new _ _)
                rw [← hL]
                refine hK3.out _ _ (K8.out _ BB.out) (fun hS3 => ?_)
                clear hK3 hL hx4
                generalize w4.alloc (.cells #[.int .i64 s.fr, .string s.le, .int .i64 s.to_, .int .i64 s.co] 75) = wb at BB O4 LB hS3 ⊢
                have hsb7 := BB.out.size
                refine wpAnyZ_step (i := 7) (by kernel_rfl) rfl (fun K7 hK7 => ?_)
                refine step_app rfl _ _ 24 rfl wy.heap.size 75 j0 (.agg #[.int .i64 0, .string ByteArray.empty, .int .i64 0, .int .i64 0]) 4 40 Tryd.underlying24 YI.out Y0.out Y1.out Y2.out rfl (by decide) _ k _ rfl O4.out ⟨L, 0, none⟩ 1 1 (stepC s) rfl rfl (World.news_of_block LB.out) (one_stepC s) (by unfold maxLen; omega) (by omega) (by omega) ?_
                intro x7 w7 hown7 hg7
                have B7 := Lib.hid (BB.out.grown hg7 BB.out.size (fun j hj => (O4.out.lt j hj).1))
                have O7 := Lib.hid hown7
                refine hK7.out _ _ (K8.out _ B7.out) (fun hS7 => ?_)
                clear hK7 hown7 hg7
                refine wpAnyZ_step (i := 11) (by kernel_rfl) rfl (fun K11 hK11 => ?_)
                have X7 := Lib.hid ((Xy.out.below B7.out).rowD (k := k) (c := cap) (by rw [HL.out]; exact hkn) (by rw [HL.out]; exact hnc) (by rw [HL.out]; exact hn1) HSZ.out)
                have hs7 := B7.out.size
                refine step_app rfl _ _ 24 rfl wy.heap.size 75 j0 (.agg #[.int .i64 0, .string ByteArray.empty, .int .i64 0, .int .i64 0]) 4 40 Tryd.underlying24 YI.out Y0.out Y1.out Y2.out rfl (by decide) _ (k + 1) _ rfl O7.out _ (n - k) (cap - k) (flatS (l.drop k)) (congrArg (fun p => Value.slice p (n - k) (cap - k)) (ite_some _ _)) (by rw [flatS_len, List.length_drop, HL.out]) (news_steps X7.out) (one_steps _) (by unfold maxLen; omega) (by omega) (by omega) ?_
                intro x11 w11 hown11 hg11
                have B11 := Lib.hid (B7.out.grown hg11 hs7 (fun j hj => (O7.out.lt j hj).1))
                have O11 := Lib.hid hown11
                refine hK11.out _ _ (K8.out _ B11.out) (fun hS11 => ?_)
                clear hK11 hown11 hg11 X7
                refine wpAnyZ_last (i := 12) (by kernel_rfl) rfl (by kernel_rfl) (fun K12 hK12 => ?_)
                go_simp
                refine hK12.out _ _ ?_
                clear hK12 hS hS1 hS2 hS3 hS7 hS11
                go_wp2_with fail
                all_goals
                  go_ret
                  have hn2 : k + 1 + (n - k) = n + 1 := by omega
                  have O := O11.out
                  rw [hn2] at O
                  obtain ⟨g', cap', hx', _, _⟩ := O.form (by omega)
                  subst hx'
                  refine ⟨g', cap', rfl, ?_, Lib.hid (below_on By2.out B11.out)⟩
                  show World.ownsRow _ _ _ _ _ _ _
                  rw [HE.out, flatS_app, flatS_cons, ← List.append_assoc]
                  exact own4_base O hwy

              · refine ⟨_, rfl, fun K2 hK2 => ?_⟩
                go_simp
                obtain ⟨L, hL⟩ : ∃ L, L = wa.heap.size := ⟨_, rfl⟩
                have BB := Lib.hid (BA.out.alloc BA.out.size (.cells #[.int .i64 s.fr, .string s.le, .int .i64 s.to_, .int .i64 s.co] 75))
                have N0 := Lib.hid (NA.out.alloc (.cells #[.int .i64 s.fr, .string s.le, .int .i64 s.to_, .int .i64 s.co] 75))
                have LA : Hid ((wa.alloc (.cells #[.int .i64 s.fr, .string s.le, .int .i64 s.to_, .int .i64 s.co] 75)).heap[L]? = some (.cells #[.int .i64 s.fr, .string s.le, .int .i64 s.to_, .int .i64 s.co] 75 (0, 0))) := by rw [hL]; exact Lib.hid (heap_alloc_new _ _)
                have hLN : ¬ L = wy.heap.size := by omega
                have hLw : L < (wa.alloc (.cells #[.int .i64 s.fr, .string s.le, .int .i64 s.to_, .int .i64 s.co] 75)).heap.size := by rw [hL]; simp
                rw [← hL]
                refine hK2.out _ _ (K8.out _ BB.out) (fun hS2 => ?_)
                clear hK2 hL
                generalize wa.alloc (.cells #[.int .i64 s.fr, .string s.le, .int .i64 s.to_, .int .i64 s.co] 75) = wb at BB N0 LA hLw hS2 ⊢
                refine wpAnyZ_step (i := 4) (by kernel_rfl) rfl (fun K3 hK3 => ?_)
                have XT := Lib.hid ((Xy.out.below BB.out).rowT (k := k) (by rw [HL.out]; exact hkn) (by rw [HL.out]; exact hn1) HSZ.out)
                have hsB := BB.out.size
                refine step_app rfl _ _ 24 rfl wy.heap.size 75 j0 (.agg #[.int .i64 0, .string ByteArray.empty, .int .i64 0, .int .i64 0]) 4 40 Tryd.underlying24 YI.out Y0.out Y1.out Y2.out rfl (by decide) (.slice (some ⟨wy.heap.size, 0, none⟩) 0 0) 0 _ rfl N0.out ⟨g, 0, none⟩ k cap (flatS (l.take k)) rfl (by rw [flatS_len, List.length_take, HL.out]; congr 1; omega) (news_steps XT.out) (one_steps _) (by unfold maxLen; omega) (by omega) (by omega) ?_
                intro x4 w4 hown4 hg4
                have B4 := Lib.hid (BB.out.grown hg4 hsB (fun j hj => (N0.out.lt j hj).1))
                have LB : Hid (w4.heap[L]? = some (.cells #[.int .i64 s.fr, .string s.le, .int .i64 s.to_, .int .i64 s.co] 75 (0, 0))) := (hg4.block L hLw (by intro e; simp [Value.ownBlock] at e; exact hLN e)).trans LA.out
                rw [Nat.zero_add, List.nil_append] at hown4
                have O4 := Lib.hid hown4
                refine hK3.out _ _ (K8.out _ B4.out) (fun hS3 => ?_)
                clear hK3 hown4 hg4 BB N0 XT hsB LA hLN hLw
                have BB := B4
                have hsb7 := BB.out.size
                refine wpAnyZ_step (i := 7) (by kernel_rfl) rfl (fun K7 hK7 => ?_)
                refine step_app rfl _ _ 24 rfl wy.heap.size 75 j0 (.agg #[.int .i64 0, .string ByteArray.empty, .int .i64 0, .int .i64 0]) 4 40 Tryd.underlying24 YI.out Y0.out Y1.out Y2.out rfl (by decide) _ k _ rfl O4.out ⟨L, 0, none⟩ 1 1 (stepC s) rfl rfl (World.news_of_block LB.out) (one_stepC s) (by unfold maxLen; omega) (by omega) (by omega) ?_
                intro x7 w7 hown7 hg7
                have B7 := Lib.hid (BB.out.grown hg7 BB.out.size (fun j hj => (O4.out.lt j hj).1))
                have O7 := Lib.hid hown7
                refine hK7.out _ _ (K8.out _ B7.out) (fun hS7 => ?_)
                clear hK7 hown7 hg7
                refine wpAnyZ_step (i := 11) (by kernel_rfl) rfl (fun K11 hK11 => ?_)
                have X7 := Lib.hid ((Xy.out.below B7.out).rowD (k := k) (c := cap) (by rw [HL.out]; exact hkn) (by rw [HL.out]; exact hnc) (by rw [HL.out]; exact hn1) HSZ.out)
                have hs7 := B7.out.size
                refine step_app rfl _ _ 24 rfl wy.heap.size 75 j0 (.agg #[.int .i64 0, .string ByteArray.empty, .int .i64 0, .int .i64 0]) 4 40 Tryd.underlying24 YI.out Y0.out Y1.out Y2.out rfl (by decide) _ (k + 1) _ rfl O7.out _ (n - k) (cap - k) (flatS (l.drop k)) (congrArg (fun p => Value.slice p (n - k) (cap - k)) (ite_some _ _)) (by rw [flatS_len, List.length_drop, HL.out]) (news_steps X7.out) (one_steps _) (by unfold maxLen; omega) (by omega) (by omega) ?_
                intro x11 w11 hown11 hg11
                have B11 := Lib.hid (B7.out.grown hg11 hs7 (fun j hj => (O7.out.lt j hj).1))
                have O11 := Lib.hid hown11
                refine hK11.out _ _ (K8.out _ B11.out) (fun hS11 => ?_)
                clear hK11 hown11 hg11 X7
                refine wpAnyZ_last (i := 12) (by kernel_rfl) rfl (by kernel_rfl) (fun K12 hK12 => ?_)
                go_simp
                refine hK12.out _ _ ?_
                clear hK12 hS hS1 hS2 hS3 hS7 hS11
                go_wp2_with fail
                all_goals
                  go_ret
                  have hn2 : k + 1 + (n - k) = n + 1 := by omega
                  have O := O11.out
                  rw [hn2] at O
                  obtain ⟨g', cap', hx', _, _⟩ := O.form (by omega)
                  subst hx'
                  refine ⟨g', cap', rfl, ?_, Lib.hid (below_on By2.out B11.out)⟩
                  show World.ownsRow _ _ _ _ _ _ _
                  rw [HE.out, flatS_app, flatS_cons, ← List.append_assoc]
                  exact own4_base O hwy

            · refine ⟨_, rfl, fun K1 hK1 => ?_⟩
              go_simp
              obtain ⟨L, hL⟩ : ∃ L, L = wy.heap.size := ⟨_, rfl⟩
              have BA := Lib.hid (((Below.refl _ wy).alloc (Nat.le_refl _) (.cells #[.int .i64 s.fr, .string s.le, .int .i64 s.to_, .int .i64 s.co] 75)).drew)
              have LA0 : Hid ((wy.alloc (.cells #[.int .i64 s.fr, .string s.le, .int .i64 s.to_, .int .i64 s.co] 75)).drew.heap[L]? = some (.cells #[.int .i64 s.fr, .string s.le, .int .i64 s.to_, .int .i64 s.co] 75 (0, 0))) := by rw [hL]; exact Lib.hid (heap_alloc_new wy _)
              have hLa : L < ((wy.alloc (.cells #[.int .i64 s.fr, .string s.le, .int .i64 s.to_, .int .i64 s.co] 75)).drew).heap.size := by rw [hL]; show _ < (wy.alloc _).heap.size; simp
              have hLy : wy.heap.size ≤ L := by omega
              rw [← hL]
              refine hK1.out _ _ (K8.out _ BA.out) (fun hS1 => ?_)
              clear hK1 hL
              generalize (wy.alloc (.cells #[.int .i64 s.fr, .string s.le, .int .i64 s.to_, .int .i64 s.co] 75)).drew = wa at BA LA0 hLa hS1 ⊢
              refine wpAnyZ_step (i := 0) (by kernel_rfl) rfl (fun K2 hK2 => ?_)
              go_simp
              obtain ⟨M0, hM0⟩ : ∃ M0, M0 = wa.heap.size := ⟨_, rfl⟩
              have BB := Lib.hid (BA.out.alloc BA.out.size (.cells #[] 75))
              have N00 : Hid ((wa.alloc (.cells #[] 75)).ownsRow wa.heap.size 75 4 (.slice (some ⟨wa.heap.size, 0, none⟩) 0 0) 0 []) := own_nil wa _ 0
              have N0 := Lib.hid (own4_base N00.out BA.out.size)
              have LA : Hid ((wa.alloc (.cells #[] 75)).heap[L]? = some (.cells #[.int .i64 s.fr, .string s.le, .int .i64 s.to_, .int .i64 s.co] 75 (0, 0))) := (Below.heap_alloc wa _ L hLa).trans LA0.out
              have hLw : L < (wa.alloc (.cells #[] 75)).heap.size := by simp; omega
              have hLN : ¬ L = M0 := by omega
              rw [← hM0] at N0
              rw [← hM0]
              refine hK2.out _ _ (K8.out _ BB.out) (fun hS2 => ?_)
              clear hK2 N00 LA0 hLa hM0
              generalize wa.alloc (.cells #[] 75) = wb at BB N0 LA hLw hS2 ⊢
              refine wpAnyZ_step (i := 4) (by kernel_rfl) rfl (fun K3 hK3 => ?_)
              have XT := Lib.hid ((Xy.out.below BB.out).rowT (k := k) (by rw [HL.out]; exact hkn) (by rw [HL.out]; exact hn1) HSZ.out)
              have hsB := BB.out.size
              refine step_app rfl _ _ 24 rfl wy.heap.size 75 j0 (.agg #[.int .i64 0, .string ByteArray.empty, .int .i64 0, .int .i64 0]) 4 40 Tryd.underlying24 YI.out Y0.out Y1.out Y2.out rfl (by decide) (.slice (some ⟨M0, 0, none⟩) 0 0) 0 _ rfl N0.out ⟨g, 0, none⟩ k cap (flatS (l.take k)) rfl (by rw [flatS_len, List.length_take, HL.out]; congr 1; omega) (news_steps XT.out) (one_steps _) (by unfold maxLen; omega) (by omega) (by omega) ?_
              intro x4 w4 hown4 hg4
              have B4 := Lib.hid (BB.out.grown hg4 hsB (fun j hj => (N0.out.lt j hj).1))
              have LB : Hid (w4.heap[L]? = some (.cells #[.int .i64 s.fr, .string s.le, .int .i64 s.to_, .int .i64 s.co] 75 (0, 0))) := (hg4.block L hLw (by intro e; simp [Value.ownBlock] at e; exact hLN e)).trans LA.out
              rw [Nat.zero_add, List.nil_append] at hown4
              have O4 := Lib.hid hown4
              refine hK3.out _ _ (K8.out _ B4.out) (fun hS3 => ?_)
              clear hK3 hown4 hg4 BB N0 XT hsB LA hLN hLw
              have BB := B4
              have hsb7 := BB.out.size
              refine wpAnyZ_step (i := 7) (by kernel_rfl) rfl (fun K7 hK7 => ?_)
              refine step_app rfl _ _ 24 rfl wy.heap.size 75 j0 (.agg #[.int .i64 0, .string ByteArray.empty, .int .i64 0, .int .i64 0]) 4 40 Tryd.underlying24 YI.out Y0.out Y1.out Y2.out rfl (by decide) _ k _ rfl O4.out ⟨L, 0, none⟩ 1 1 (stepC s) rfl rfl (World.news_of_block LB.out) (one_stepC s) (by unfold maxLen; omega) (by omega) (by omega) ?_
              intro x7 w7 hown7 hg7
              have B7 := Lib.hid (BB.out.grown hg7 BB.out.size (fun j hj => (O4.out.lt j hj).1))
              have O7 := Lib.hid hown7
              refine hK7.out _ _ (K8.out _ B7.out) (fun hS7 => ?_)
              clear hK7 hown7 hg7
              refine wpAnyZ_step (i := 11) (by kernel_rfl) rfl (fun K11 hK11 => ?_)
              have X7 := Lib.hid ((Xy.out.below B7.out).rowD (k := k) (c := cap) (by rw [HL.out]; exact hkn) (by rw [HL.out]; exact hnc) (by rw [HL.out]; exact hn1) HSZ.out)
              have hs7 := B7.out.size
              refine step_app rfl _ _ 24 rfl wy.heap.size 75 j0 (.agg #[.int .i64 0, .string ByteArray.empty, .int .i64 0, .int .i64 0]) 4 40 Tryd.underlying24 YI.out Y0.out Y1.out Y2.out rfl (by decide) _ (k + 1) _ rfl O7.out _ (n - k) (cap - k) (flatS (l.drop k)) (congrArg (fun p => Value.slice p (n - k) (cap - k)) (ite_some _ _)) (by rw [flatS_len, List.length_drop, HL.out]) (news_steps X7.out) (one_steps _) (by unfold maxLen; omega) (by omega) (by omega) ?_
              intro x11 w11 hown11 hg11
              have B11 := Lib.hid (B7.out.grown hg11 hs7 (fun j hj => (O7.out.lt j hj).1))
              have O11 := Lib.hid hown11
              refine hK11.out _ _ (K8.out _ B11.out) (fun hS11 => ?_)
              clear hK11 hown11 hg11 X7
              refine wpAnyZ_last (i := 12) (by kernel_rfl) rfl (by kernel_rfl) (fun K12 hK12 => ?_)
              go_simp
              refine hK12.out _ _ ?_
              clear hK12 hS hS1 hS2 hS3 hS7 hS11
              go_wp2_with fail
              all_goals
                go_ret
                have hn2 : k + 1 + (n - k) = n + 1 := by omega
                have O := O11.out
                rw [hn2] at O
                obtain ⟨g', cap', hx', _, _⟩ := O.form (by omega)
                subst hx'
                refine ⟨g', cap', rfl, ?_, Lib.hid (below_on By2.out B11.out)⟩
                show World.ownsRow _ _ _ _ _ _ _
                rw [HE.out, flatS_app, flatS_cons, ← List.append_assoc]
                exact own4_base O hwy

        · have HBN : Hid (∀ j, j < k + 1 → befS (l.getD j default) s = true) := fun j hj => by
            rcases Nat.lt_or_ge j k with h | h
            · exact hbe.out j h
            · have e : j = k := by omega
              rw [e, HXG.out]; exact HR.out
          clear hS0 K2
          go_wp2_with fail
          go_roundw
          case rel => exact ⟨k + 1, by omega, by go_num, HBN, Bx⟩
          case measure => simp [intOf]; omega
    · have hk1 : ¬ (k : Int) < (n : Int) := by omega
      have hkn0 : k = n := by omega
      have K2 : Hid (∀ w', Below wr.heap.size wr w' → (Hid (Below wr.heap.size wr w') ∧ w'.cell? ⟨P, 0, none⟩ = some (.int .i64 s.fr) ∧ w'.cell? ⟨P, 1, none⟩ = some (.string s.le) ∧ w'.cell? ⟨P, 2, none⟩ = some (.int .i64 s.to_) ∧ w'.cell? ⟨P, 3, none⟩ = some (.int .i64 s.co))) := fun w' h => by
        have p := blk_b Pr.out h
        exact ⟨h, p.cell 0, p.cell 1, p.cell 2, p.cell 3⟩
      have HE : Hid (putL l s = l.take k ++ s :: l.drop k) := by
        show _ = _
        rw [putL_at k l s (by rw [HL.out]; omega) hbe.out (Or.inl (by rw [HL.out]; omega)), if_neg (by rw [HL.out]; omega)]
      have hS0 := K2.out wr.drew ((Below.refl _ _).drew)
      clear hkn0
      go_upto_region 2 with fail
      go_cut [5, 18] (fun a b wx => a = .int .i64 k ∧ b = .bool false ∧ Hid (Below wr.heap.size wr wx))
      case first =>
        refine wp_region_Z (S := fun w' => Hid (Below wr.heap.size wr w') ∧ w'.cell? ⟨P, 0, none⟩ = some (.int .i64 s.fr) ∧ w'.cell? ⟨P, 1, none⟩ = some (.string s.le) ∧ w'.cell? ⟨P, 2, none⟩ = some (.int .i64 s.to_) ∧ w'.cell? ⟨P, 3, none⟩ = some (.int .i64 s.co)) (by kernel_rfl) hS0 (fun hS => ?_)
        clear hS0
        refine wpAnyZ_take (i := 0) (v := ?vd0) rfl (by kernel_rfl) (by kernel_rfl) (by kernel_rfl) (by kernel_rfl) (fun _ _ _ h => h) (Or.inl ⟨by kernel_rfl, ?yd0⟩) (by with_reducible assumption) ?rd0
        case yd0 => (intro w hSw; (try dsimp only at hSw); go_simp; (try with_reducible rfl))
        simp only [Act.put, List.setIfInBounds_toArray]
        refine wpAnyZ_take (i := 1) (v := ?vd1) rfl (by kernel_rfl) (by kernel_rfl) (by kernel_rfl) (by kernel_rfl) (fun _ _ _ h => h) (Or.inl ⟨by kernel_rfl, ?yd1⟩) (by with_reducible assumption) ?rd1
        case yd1 => (intro w hSw; (try dsimp only at hSw); go_simp; (try with_reducible rfl))
        simp only [Act.put]
        refine wpAnyZ_take (i := 2) (v := ?vd2) rfl (by kernel_rfl) (by kernel_rfl) (by kernel_rfl) (by kernel_rfl) (fun _ _ _ h => h) (Or.inl ⟨by kernel_rfl, ?yd2⟩) (by with_reducible assumption) ?rd2
        case yd2 => (intro w hSw; (try dsimp only at hSw); go_simp; (try with_reducible rfl))
        simp only [Act.put]
        refine wpAnyZ_take (i := 3) (v := ?vd3) rfl (by kernel_rfl) (by kernel_rfl) (by kernel_rfl) (by kernel_rfl) (fun _ _ _ h => h) (Or.inl ⟨by kernel_rfl, ?yd3⟩) (by with_reducible assumption) ?rd3
        case yd3 => (intro w hSw; (try dsimp only at hSw); go_simp; (try with_reducible rfl))
        simp only [Act.put]
        refine wpAnyZ_take (i := 4) (v := ?vd4) rfl (by kernel_rfl) (by kernel_rfl) (by kernel_rfl) (by kernel_rfl) (fun _ _ _ h => h) (Or.inl ⟨by kernel_rfl, ?yd4⟩) (by with_reducible assumption) ?rd4
        case yd4 => (intro w hSw; (try dsimp only at hSw); go_simp; (try with_reducible rfl))
        simp only [Act.put]
        refine wpAnyZ_take (i := 5) (v := undef) rfl (by kernel_rfl) (by kernel_rfl) (by kernel_rfl) (by kernel_rfl) (fun _ _ _ h => h) (Or.inr ⟨by kernel_rfl, rfl⟩) (by with_reducible assumption) ?ud5
        simp only [Act.put]
        refine wpAnyZ_take (i := 6) (v := undef) rfl (by kernel_rfl) (by kernel_rfl) (by kernel_rfl) (by kernel_rfl) (fun _ _ _ h => h) (Or.inr ⟨by kernel_rfl, rfl⟩) (by with_reducible assumption) ?ud6
        simp only [Act.put]
        refine wpAnyZ_take (i := 7) (v := undef) rfl (by kernel_rfl) (by kernel_rfl) (by kernel_rfl) (by kernel_rfl) (fun _ _ _ h => h) (Or.inr ⟨by kernel_rfl, rfl⟩) (by with_reducible assumption) ?ud7
        simp only [Act.put]
        refine wpAnyZ_take (i := 8) (v := undef) rfl (by kernel_rfl) (by kernel_rfl) (by kernel_rfl) (by kernel_rfl) (fun _ _ _ h => h) (Or.inr ⟨by kernel_rfl, rfl⟩) (by with_reducible assumption) ?ud8
        simp only [Act.put]
        refine wpAnyZ_take (i := 9) (v := undef) rfl (by kernel_rfl) (by kernel_rfl) (by kernel_rfl) (by kernel_rfl) (fun _ _ _ h => h) (Or.inr ⟨by kernel_rfl, rfl⟩) (by with_reducible assumption) ?ud9
        simp only [Act.put]
        refine wpAnyZ_take (i := 10) (v := undef) rfl (by kernel_rfl) (by kernel_rfl) (by kernel_rfl) (by kernel_rfl) (fun _ _ _ h => h) (Or.inr ⟨by kernel_rfl, rfl⟩) (by with_reducible assumption) ?ud10
        simp only [Act.put]
        refine wpAnyZ_last (i := 11) (by kernel_rfl) rfl (by kernel_rfl) (fun K4 hK4 => ?_)
        go_simp
        refine hK4.out _ _ ?_
        clear hK4
        go_wp2_with fail
        go_meet
        exact ⟨rfl, rfl, Lib.hid (Below.refl _ _).drew⟩
      case rest =>
        obtain ⟨rfl, rfl, hbx⟩ := hcut
        generalize wc = wx at hbx ⊢
        have Bx := Lib.hid (below_on hbw.out hbx.out)
        have Px := Lib.hid (blk_b P1.out Bx.out)
        clear hS0 K2 Pr Xr hbx hbw
        have K4 : Hid (∀ w', Below wx.heap.size wx w' → (Hid (Below wx.heap.size wx w') ∧ w'.cell? ⟨P, 0, none⟩ = some (.int .i64 s.fr) ∧ w'.cell? ⟨P, 1, none⟩ = some (.string s.le) ∧ w'.cell? ⟨P, 2, none⟩ = some (.int .i64 s.to_) ∧ w'.cell? ⟨P, 3, none⟩ = some (.int .i64 s.co))) := fun w' h => by
          have p := blk_b Px.out h
          exact ⟨h, p.cell 0, p.cell 1, p.cell 2, p.cell 3⟩
        have hS0 := K4.out wx.drew ((Below.refl _ _).drew)
        go_upto_region 4 with fail
        go_cut [5, 33] (fun a b wy => a = .int .i64 k ∧ b = .bool false ∧ Hid (Below wx.heap.size wx wy))
        case first =>
          refine wp_region_Z (S := fun w' => Hid (Below wx.heap.size wx w') ∧ w'.cell? ⟨P, 0, none⟩ = some (.int .i64 s.fr) ∧ w'.cell? ⟨P, 1, none⟩ = some (.string s.le) ∧ w'.cell? ⟨P, 2, none⟩ = some (.int .i64 s.to_) ∧ w'.cell? ⟨P, 3, none⟩ = some (.int .i64 s.co)) (by kernel_rfl) hS0 (fun hS => ?_)
          clear hS0
          refine wpAnyZ_take (i := 0) (v := ?ve0) rfl (by kernel_rfl) (by kernel_rfl) (by kernel_rfl) (by kernel_rfl) (fun _ _ _ h => h) (Or.inl ⟨by kernel_rfl, ?ye0⟩) (by with_reducible assumption) ?re0
          case ye0 => (intro w hSw; (try dsimp only at hSw); go_simp; (try with_reducible rfl))
          simp only [Act.put, List.setIfInBounds_toArray]
          refine wpAnyZ_take (i := 1) (v := ?ve1) rfl (by kernel_rfl) (by kernel_rfl) (by kernel_rfl) (by kernel_rfl) (fun _ _ _ h => h) (Or.inl ⟨by kernel_rfl, ?ye1⟩) (by with_reducible assumption) ?re1
          case ye1 => (intro w hSw; (try dsimp only at hSw); go_simp; (try with_reducible rfl))
          simp only [Act.put]
          refine wpAnyZ_take (i := 2) (v := ?ve2) rfl (by kernel_rfl) (by kernel_rfl) (by kernel_rfl) (by kernel_rfl) (fun _ _ _ h => h) (Or.inl ⟨by kernel_rfl, ?ye2⟩) (by with_reducible assumption) ?re2
          case ye2 => (intro w hSw; (try dsimp only at hSw); go_simp; (try with_reducible rfl))
          simp only [Act.put]
          refine wpAnyZ_take (i := 3) (v := ?ve3) rfl (by kernel_rfl) (by kernel_rfl) (by kernel_rfl) (by kernel_rfl) (fun _ _ _ h => h) (Or.inl ⟨by kernel_rfl, ?ye3⟩) (by with_reducible assumption) ?re3
          case ye3 => (intro w hSw; (try dsimp only at hSw); go_simp; (try with_reducible rfl))
          simp only [Act.put]
          refine wpAnyZ_take (i := 4) (v := ?ve4) rfl (by kernel_rfl) (by kernel_rfl) (by kernel_rfl) (by kernel_rfl) (fun _ _ _ h => h) (Or.inl ⟨by kernel_rfl, ?ye4⟩) (by with_reducible assumption) ?re4
          case ye4 => (intro w hSw; (try dsimp only at hSw); go_simp; (try with_reducible rfl))
          simp only [Act.put]
          refine wpAnyZ_take (i := 5) (v := undef) rfl (by kernel_rfl) (by kernel_rfl) (by kernel_rfl) (by kernel_rfl) (fun _ _ _ h => h) (Or.inr ⟨by kernel_rfl, rfl⟩) (by with_reducible assumption) ?ue5
          simp only [Act.put]
          refine wpAnyZ_take (i := 6) (v := undef) rfl (by kernel_rfl) (by kernel_rfl) (by kernel_rfl) (by kernel_rfl) (fun _ _ _ h => h) (Or.inr ⟨by kernel_rfl, rfl⟩) (by with_reducible assumption) ?ue6
          simp only [Act.put]
          refine wpAnyZ_take (i := 7) (v := undef) rfl (by kernel_rfl) (by kernel_rfl) (by kernel_rfl) (by kernel_rfl) (fun _ _ _ h => h) (Or.inr ⟨by kernel_rfl, rfl⟩) (by with_reducible assumption) ?ue7
          simp only [Act.put]
          refine wpAnyZ_take (i := 8) (v := undef) rfl (by kernel_rfl) (by kernel_rfl) (by kernel_rfl) (by kernel_rfl) (fun _ _ _ h => h) (Or.inr ⟨by kernel_rfl, rfl⟩) (by with_reducible assumption) ?ue8
          simp only [Act.put]
          refine wpAnyZ_take (i := 9) (v := undef) rfl (by kernel_rfl) (by kernel_rfl) (by kernel_rfl) (by kernel_rfl) (fun _ _ _ h => h) (Or.inr ⟨by kernel_rfl, rfl⟩) (by with_reducible assumption) ?ue9
          simp only [Act.put]
          refine wpAnyZ_take (i := 10) (v := undef) rfl (by kernel_rfl) (by kernel_rfl) (by kernel_rfl) (by kernel_rfl) (fun _ _ _ h => h) (Or.inr ⟨by kernel_rfl, rfl⟩) (by with_reducible assumption) ?ue10
          simp only [Act.put]
          refine wpAnyZ_take (i := 11) (v := undef) rfl (by kernel_rfl) (by kernel_rfl) (by kernel_rfl) (by kernel_rfl) (fun _ _ _ h => h) (Or.inr ⟨by kernel_rfl, rfl⟩) (by with_reducible assumption) ?ue11
          simp only [Act.put]
          refine wpAnyZ_last (i := 12) (by kernel_rfl) rfl (by kernel_rfl) (fun K6 hK6 => ?_)
          go_simp
          refine hK6.out _ _ ?_
          clear hK6
          go_wp2_with fail
          go_meet
          exact ⟨rfl, rfl, Lib.hid (Below.refl _ _).drew⟩
        case rest =>
            obtain ⟨rfl, rfl, hby⟩ := hcut
            generalize wc = wy at hby ⊢
            have By := Lib.hid (below_on Bx.out hby.out)
            have Py := Lib.hid (blk_b P1.out By.out)
            have Xy := Lib.hid (X1.out.below By.out)
            clear hS0 K4 Px hby Bx
            go_upto_region 8 with fail
            have hkn : k ≤ n := hk
            have hkc : k ≤ cap := by omega
            have HSZ : Hid (∀ t ∈ l, t.le.size ≤ 9223372036854775807) := fun t ht => by
              rcases (HM.out t ht).2.2.2.2 with h | h <;> rw [h] <;> decide
            have K8 : Hid (∀ w', Below wy.heap.size wy w' → (Hid (Below wy.heap.size wy w') ∧ w'.cell? ⟨P, 0, none⟩ = some (.int .i64 s.fr) ∧ w'.cell? ⟨P, 1, none⟩ = some (.string s.le) ∧ w'.cell? ⟨P, 2, none⟩ = some (.int .i64 s.to_) ∧ w'.cell? ⟨P, 3, none⟩ = some (.int .i64 s.co))) := fun w' h => by
              have p := blk_b Py.out h
              exact ⟨h, p.cell 0, p.cell 1, p.cell 2, p.cell 3⟩
            have By2 := Lib.hid (below_on B1.out By.out)
            have hwy := By2.out.size
            have hS0 := K8.out wy.drew ((Below.refl _ _).drew)
            refine wp_region_Z (S := fun w' => Hid (Below wy.heap.size wy w') ∧ w'.cell? ⟨P, 0, none⟩ = some (.int .i64 s.fr) ∧ w'.cell? ⟨P, 1, none⟩ = some (.string s.le) ∧ w'.cell? ⟨P, 2, none⟩ = some (.int .i64 s.to_) ∧ w'.cell? ⟨P, 3, none⟩ = some (.int .i64 s.co)) (by kernel_rfl) hS0 (fun hS => ?_)
            clear hS0
            refine wpAnyZ_take (i := 1) (v := ?vf1) rfl (by kernel_rfl) (by kernel_rfl) (by kernel_rfl) (by kernel_rfl) (fun _ _ _ h => h) (Or.inl ⟨by kernel_rfl, ?yf1⟩) (by with_reducible assumption) ?rf1
            case yf1 => (intro w hSw; (try dsimp only at hSw); go_simp; (try with_reducible rfl))
            simp only [Act.put, List.setIfInBounds_toArray]
            refine wpAnyZ_take (i := 2) (v := ?vf2) rfl (by kernel_rfl) (by kernel_rfl) (by kernel_rfl) (by kernel_rfl) (fun _ _ _ h => h) (Or.inl ⟨by kernel_rfl, ?yf2⟩) (by with_reducible assumption) ?rf2
            case yf2 => (intro w hSw; (try dsimp only at hSw); go_simp; (try with_reducible rfl))
            simp only [Act.put]
            refine wpAnyZ_take (i := 3) (v := ?vf3) rfl (by kernel_rfl) (by kernel_rfl) (by kernel_rfl) (by kernel_rfl) (fun _ _ _ h => h) (Or.inl ⟨by kernel_rfl, ?yf3⟩) (by with_reducible assumption) ?rf3
            case yf3 => (intro w hSw; (try dsimp only at hSw); go_simp; (try with_reducible rfl))
            simp only [Act.put]
            refine wpAnyZ_take (i := 5) (v := ?vf5) rfl (by kernel_rfl) (by kernel_rfl) (by kernel_rfl) (by kernel_rfl) (fun _ _ _ h => h) (Or.inl ⟨by kernel_rfl, ?yf5⟩) (by with_reducible assumption) ?rf5
            case yf5 => (intro w hSw; (try dsimp only at hSw); go_simp; (try with_reducible rfl))
            simp only [Act.put]
            refine wpAnyZ_take (i := 8) (v := ?vf8) rfl (by kernel_rfl) (by kernel_rfl) (by kernel_rfl) (by kernel_rfl) (fun _ _ _ h => h) (Or.inl ⟨by kernel_rfl, ?yf8⟩) (by with_reducible assumption) ?rf8
            case yf8 => (intro w hSw; (try dsimp only at hSw); go_simp; (try with_reducible rfl))
            simp only [Act.put]
            refine wpAnyZ_take (i := 9) (v := ?vf9) rfl (by kernel_rfl) (by kernel_rfl) (by kernel_rfl) (by kernel_rfl) (fun _ _ _ h => h) (Or.inl ⟨by kernel_rfl, ?yf9⟩) (by with_reducible assumption) ?rf9
            case yf9 => (intro w hSw; (try dsimp only at hSw); go_simp; (try with_reducible rfl))
            simp only [Act.put]
            refine wpAnyZ_take (i := 10) (v := ?vf10) rfl (by kernel_rfl) (by kernel_rfl) (by kernel_rfl) (by kernel_rfl) (fun _ _ _ h => h) (Or.inl ⟨by kernel_rfl, ?yf10⟩) (by with_reducible assumption) ?rf10
            case yf10 => (intro w hSw; (try dsimp only at hSw); go_simp; (try with_reducible rfl))
            simp only [Act.put]
            refine wpAnyZ_fork (rs := [0, 6]) (by kernel_rfl) (by decide) ?_
            intro i hi
            simp only [List.mem_cons, List.not_mem_nil, or_false] at hi
            rcases hi with rfl | rfl
            · refine ⟨_, rfl, fun K1 hK1 => ?_⟩
              go_simp
              have BA := Lib.hid (((Below.refl _ wy).alloc (Nat.le_refl _) (.cells #[] 75)).drew)
              have NA : Hid ((wy.alloc (.cells #[] 75)).drew.ownsRow wy.heap.size 75 4 (.slice (some ⟨wy.heap.size, 0, none⟩) 0 0) 0 []) := own_nil wy _ 1
              refine hK1.out _ _ (K8.out _ BA.out) (fun hS1 => ?_)
              clear hK1
              have hsA : wy.heap.size < ((wy.alloc (.cells #[] 75)).drew).heap.size := by show _ < (wy.alloc _).heap.size; simp
              generalize (wy.alloc (.cells #[] 75)).drew = wa at BA NA hsA hS1 ⊢
              refine wpAnyZ_fork (rs := [4, 6]) (by kernel_rfl) (by decide) ?_
              intro i hi
              simp only [List.mem_cons, List.not_mem_nil, or_false] at hi
              rcases hi with rfl | rfl
              · refine ⟨_, rfl, fun K2 hK2 => ?_⟩
                have BB := BA
                have N0 := NA
                have XT := Lib.hid ((Xy.out.below BB.out).rowT (k := k) (by rw [HL.out]; exact hkn) (by rw [HL.out]; exact hn1) HSZ.out)
                have hsB := BB.out.size
                refine step_app rfl _ _ 24 rfl wy.heap.size 75 j0 (.agg #[.int .i64 0, .string ByteArray.empty, .int .i64 0, .int .i64 0]) 4 40 Tryd.underlying24 YI.out Y0.out Y1.out Y2.out rfl (by decide) (.slice (some ⟨wy.heap.size, 0, none⟩) 0 0) 0 _ rfl N0.out ⟨g, 0, none⟩ k cap (flatS (l.take k)) rfl (by rw [flatS_len, List.length_take, HL.out]; congr 1; omega) (news_steps XT.out) (one_steps _) (by unfold maxLen; omega) (by omega) (by omega) ?_
                intro x4 w4 hown4 hg4
                have B4 := Lib.hid (BB.out.grown hg4 hsB (fun j hj => (N0.out.lt j hj).1))
                have hx4 : ∀ j, x4.ownBlock = some j → j < w4.heap.size := fun j hj => (hown4.lt j hj).2
                have hown4' := hown4
                rw [Nat.zero_add, List.nil_append] at hown4'
                have O4a := Lib.hid hown4'
                refine hK2.out _ _ (K8.out _ B4.out) (fun hS2 => ?_)
                clear hK2 hown4 hown4' hg4 BB N0 XT hsB
                refine wpAnyZ_step (i := 6) (by kernel_rfl) rfl (fun K3 hK3 => ?_)
                go_simp
                obtain ⟨L, hL⟩ : ∃ L, L = w4.heap.size := ⟨_, rfl⟩
                have BB := Lib.hid (B4.out.alloc B4.out.size (.cells #[.int .i64 s.fr, .string s.le, .int .i64 s.to_, .int .i64 s.co] 75))
                have O4 := Lib.hid (O4a.out.alloc (.cells #[.int .i64 s.fr, .string s.le, .int .i64 s.to_, .int .i64 s.co] 75))
                have LB : Hid ((w4.alloc (.cells #[.int .i64 s.fr, .string s.le, .int .i64 s.to_, .int .i64 s.co] 75)).heap[L]? = some (.cells #[.int .i64 s.fr, .string s.le, .int .i64 s.to_, .int .i64 s.co] 75 (0, 0))) := by rw [hL]; exact Lib.hid (heap_alloc_new _ _)
                rw [← hL]
                refine hK3.out _ _ (K8.out _ BB.out) (fun hS3 => ?_)
                clear hK3 hL hx4
                generalize w4.alloc (.cells #[.int .i64 s.fr, .string s.le, .int .i64 s.to_, .int .i64 s.co] 75) = wb at BB O4 LB hS3 ⊢
                have hsb7 := BB.out.size
                refine wpAnyZ_step (i := 7) (by kernel_rfl) rfl (fun K7 hK7 => ?_)
                refine step_app rfl _ _ 24 rfl wy.heap.size 75 j0 (.agg #[.int .i64 0, .string ByteArray.empty, .int .i64 0, .int .i64 0]) 4 40 Tryd.underlying24 YI.out Y0.out Y1.out Y2.out rfl (by decide) _ k _ rfl O4.out ⟨L, 0, none⟩ 1 1 (stepC s) rfl rfl (World.news_of_block LB.out) (one_stepC s) (by unfold maxLen; omega) (by omega) (by omega) ?_
                intro x7 w7 hown7 hg7
                have B7 := Lib.hid (BB.out.grown hg7 BB.out.size (fun j hj => (O4.out.lt j hj).1))
                have O7 := Lib.hid hown7
                refine hK7.out _ _ (K8.out _ B7.out) (fun hS7 => ?_)
                clear hK7 hown7 hg7
                refine wpAnyZ_step (i := 11) (by kernel_rfl) rfl (fun K11 hK11 => ?_)
                have X7 := Lib.hid ((Xy.out.below B7.out).rowD (k := k) (c := cap) (by rw [HL.out]; exact hkn) (by rw [HL.out]; exact hnc) (by rw [HL.out]; exact hn1) HSZ.out)
                have hs7 := B7.out.size
                refine step_app rfl _ _ 24 rfl wy.heap.size 75 j0 (.agg #[.int .i64 0, .string ByteArray.empty, .int .i64 0, .int .i64 0]) 4 40 Tryd.underlying24 YI.out Y0.out Y1.out Y2.out rfl (by decide) _ (k + 1) _ rfl O7.out _ (n - k) (cap - k) (flatS (l.drop k)) (congrArg (fun p => Value.slice p (n - k) (cap - k)) (ite_some _ _)) (by rw [flatS_len, List.length_drop, HL.out]) (news_steps X7.out) (one_steps _) (by unfold maxLen; omega) (by omega) (by omega) ?_
                intro x11 w11 hown11 hg11
                have B11 := Lib.hid (B7.out.grown hg11 hs7 (fun j hj => (O7.out.lt j hj).1))
                have O11 := Lib.hid hown11
                refine hK11.out _ _ (K8.out _ B11.out) (fun hS11 => ?_)
                clear hK11 hown11 hg11 X7
                refine wpAnyZ_last (i := 12) (by kernel_rfl) rfl (by kernel_rfl) (fun K12 hK12 => ?_)
                go_simp
                refine hK12.out _ _ ?_
                clear hK12 hS hS1 hS2 hS3 hS7 hS11
                go_wp2_with fail
                all_goals
                  go_ret
                  have hn2 : k + 1 + (n - k) = n + 1 := by omega
                  have O := O11.out
                  rw [hn2] at O
                  obtain ⟨g', cap', hx', _, _⟩ := O.form (by omega)
                  subst hx'
                  refine ⟨g', cap', rfl, ?_, Lib.hid (below_on By2.out B11.out)⟩
                  show World.ownsRow _ _ _ _ _ _ _
                  rw [HE.out, flatS_app, flatS_cons, ← List.append_assoc]
                  exact own4_base O hwy

              · refine ⟨_, rfl, fun K2 hK2 => ?_⟩
                go_simp
                obtain ⟨L, hL⟩ : ∃ L, L = wa.heap.size := ⟨_, rfl⟩
                have BB := Lib.hid (BA.out.alloc BA.out.size (.cells #[.int .i64 s.fr, .string s.le, .int .i64 s.to_, .int .i64 s.co] 75))
                have N0 := Lib.hid (NA.out.alloc (.cells #[.int .i64 s.fr, .string s.le, .int .i64 s.to_, .int .i64 s.co] 75))
                have LA : Hid ((wa.alloc (.cells #[.int .i64 s.fr, .string s.le, .int .i64 s.to_, .int .i64 s.co] 75)).heap[L]? = some (.cells #[.int .i64 s.fr, .string s.le, .int .i64 s.to_, .int .i64 s.co] 75 (0, 0))) := by rw [hL]; exact Lib.hid (heap_alloc_new _ _)
                have hLN : ¬ L = wy.heap.size := by omega
                have hLw : L < (wa.alloc (.cells #[.int .i64 s.fr, .string s.le, .int .i64 s.to_, .int .i64 s.co] 75)).heap.size := by rw [hL]; simp
                rw [← hL]
                refine hK2.out _ _ (K8.out _ BB.out) (fun hS2 => ?_)
                clear hK2 hL
                generalize wa.alloc (.cells #[.int .i64 s.fr, .string s.le, .int .i64 s.to_, .int .i64 s.co] 75) = wb at BB N0 LA hLw hS2 ⊢
                refine wpAnyZ_step (i := 4) (by kernel_rfl) rfl (fun K3 hK3 => ?_)
                have XT := Lib.hid ((Xy.out.below BB.out).rowT (k := k) (by rw [HL.out]; exact hkn) (by rw [HL.out]; exact hn1) HSZ.out)
                have hsB := BB.out.size
                refine step_app rfl _ _ 24 rfl wy.heap.size 75 j0 (.agg #[.int .i64 0, .string ByteArray.empty, .int .i64 0, .int .i64 0]) 4 40 Tryd.underlying24 YI.out Y0.out Y1.out Y2.out rfl (by decide) (.slice (some ⟨wy.heap.size, 0, none⟩) 0 0) 0 _ rfl N0.out ⟨g, 0, none⟩ k cap (flatS (l.take k)) rfl (by rw [flatS_len, List.length_take, HL.out]; congr 1; omega) (news_steps XT.out) (one_steps _) (by unfold maxLen; omega) (by omega) (by omega) ?_
                intro x4 w4 hown4 hg4
                have B4 := Lib.hid (BB.out.grown hg4 hsB (fun j hj => (N0.out.lt j hj).1))
                have LB : Hid (w4.heap[L]? = some (.cells #[.int .i64 s.fr, .string s.le, .int .i64 s.to_, .int .i64 s.co] 75 (0, 0))) := (hg4.block L hLw (by intro e; simp [Value.ownBlock] at e; exact hLN e)).trans LA.out
                rw [Nat.zero_add, List.nil_append] at hown4
                have O4 := Lib.hid hown4
                refine hK3.out _ _ (K8.out _ B4.out) (fun hS3 => ?_)
                clear hK3 hown4 hg4 BB N0 XT hsB LA hLN hLw
                have BB := B4
                have hsb7 := BB.out.size
                refine wpAnyZ_step (i := 7) (by kernel_rfl) rfl (fun K7 hK7 => ?_)
                refine step_app rfl _ _ 24 rfl wy.heap.size 75 j0 (.agg #[.int .i64 0, .string ByteArray.empty, .int .i64 0, .int .i64 0]) 4 40 Tryd.underlying24 YI.out Y0.out Y1.out Y2.out rfl (by decide) _ k _ rfl O4.out ⟨L, 0, none⟩ 1 1 (stepC s) rfl rfl (World.news_of_block LB.out) (one_stepC s) (by unfold maxLen; omega) (by omega) (by omega) ?_
                intro x7 w7 hown7 hg7
                have B7 := Lib.hid (BB.out.grown hg7 BB.out.size (fun j hj => (O4.out.lt j hj).1))
                have O7 := Lib.hid hown7
                refine hK7.out _ _ (K8.out _ B7.out) (fun hS7 => ?_)
                clear hK7 hown7 hg7
                refine wpAnyZ_step (i := 11) (by kernel_rfl) rfl (fun K11 hK11 => ?_)
                have X7 := Lib.hid ((Xy.out.below B7.out).rowD (k := k) (c := cap) (by rw [HL.out]; exact hkn) (by rw [HL.out]; exact hnc) (by rw [HL.out]; exact hn1) HSZ.out)
                have hs7 := B7.out.size
                refine step_app rfl _ _ 24 rfl wy.heap.size 75 j0 (.agg #[.int .i64 0, .string ByteArray.empty, .int .i64 0, .int .i64 0]) 4 40 Tryd.underlying24 YI.out Y0.out Y1.out Y2.out rfl (by decide) _ (k + 1) _ rfl O7.out _ (n - k) (cap - k) (flatS (l.drop k)) (congrArg (fun p => Value.slice p (n - k) (cap - k)) (ite_some _ _)) (by rw [flatS_len, List.length_drop, HL.out]) (news_steps X7.out) (one_steps _) (by unfold maxLen; omega) (by omega) (by omega) ?_
                intro x11 w11 hown11 hg11
                have B11 := Lib.hid (B7.out.grown hg11 hs7 (fun j hj => (O7.out.lt j hj).1))
                have O11 := Lib.hid hown11
                refine hK11.out _ _ (K8.out _ B11.out) (fun hS11 => ?_)
                clear hK11 hown11 hg11 X7
                refine wpAnyZ_last (i := 12) (by kernel_rfl) rfl (by kernel_rfl) (fun K12 hK12 => ?_)
                go_simp
                refine hK12.out _ _ ?_
                clear hK12 hS hS1 hS2 hS3 hS7 hS11
                go_wp2_with fail
                all_goals
                  go_ret
                  have hn2 : k + 1 + (n - k) = n + 1 := by omega
                  have O := O11.out
                  rw [hn2] at O
                  obtain ⟨g', cap', hx', _, _⟩ := O.form (by omega)
                  subst hx'
                  refine ⟨g', cap', rfl, ?_, Lib.hid (below_on By2.out B11.out)⟩
                  show World.ownsRow _ _ _ _ _ _ _
                  rw [HE.out, flatS_app, flatS_cons, ← List.append_assoc]
                  exact own4_base O hwy

            · refine ⟨_, rfl, fun K1 hK1 => ?_⟩
              go_simp
              obtain ⟨L, hL⟩ : ∃ L, L = wy.heap.size := ⟨_, rfl⟩
              have BA := Lib.hid (((Below.refl _ wy).alloc (Nat.le_refl _) (.cells #[.int .i64 s.fr, .string s.le, .int .i64 s.to_, .int .i64 s.co] 75)).drew)
              have LA0 : Hid ((wy.alloc (.cells #[.int .i64 s.fr, .string s.le, .int .i64 s.to_, .int .i64 s.co] 75)).drew.heap[L]? = some (.cells #[.int .i64 s.fr, .string s.le, .int .i64 s.to_, .int .i64 s.co] 75 (0, 0))) := by rw [hL]; exact Lib.hid (heap_alloc_new wy _)
              have hLa : L < ((wy.alloc (.cells #[.int .i64 s.fr, .string s.le, .int .i64 s.to_, .int .i64 s.co] 75)).drew).heap.size := by rw [hL]; show _ < (wy.alloc _).heap.size; simp
              have hLy : wy.heap.size ≤ L := by omega
              rw [← hL]
              refine hK1.out _ _ (K8.out _ BA.out) (fun hS1 => ?_)
              clear hK1 hL
              generalize (wy.alloc (.cells #[.int .i64 s.fr, .string s.le, .int .i64 s.to_, .int .i64 s.co] 75)).drew = wa at BA LA0 hLa hS1 ⊢
              refine wpAnyZ_step (i := 0) (by kernel_rfl) rfl (fun K2 hK2 => ?_)
              go_simp
              obtain ⟨M0, hM0⟩ : ∃ M0, M0 = wa.heap.size := ⟨_, rfl⟩
              have BB := Lib.hid (BA.out.alloc BA.out.size (.cells #[] 75))
              have N00 : Hid ((wa.alloc (.cells #[] 75)).ownsRow wa.heap.size 75 4 (.slice (some ⟨wa.heap.size, 0, none⟩) 0 0) 0 []) := own_nil wa _ 0
              have N0 := Lib.hid (own4_base N00.out BA.out.size)
              have LA : Hid ((wa.alloc (.cells #[] 75)).heap[L]? = some (.cells #[.int .i64 s.fr, .string s.le, .int .i64 s.to_, .int .i64 s.co] 75 (0, 0))) := (Below.heap_alloc wa _ L hLa).trans LA0.out
              have hLw : L < (wa.alloc (.cells #[] 75)).heap.size := by simp; omega
              have hLN : ¬ L = M0 := by omega
              rw [← hM0] at N0
              rw [← hM0]
              refine hK2.out _ _ (K8.out _ BB.out) (fun hS2 => ?_)
              clear hK2 N00 LA0 hLa hM0
              generalize wa.alloc (.cells #[] 75) = wb at BB N0 LA hLw hS2 ⊢
              refine wpAnyZ_step (i := 4) (by kernel_rfl) rfl (fun K3 hK3 => ?_)
              have XT := Lib.hid ((Xy.out.below BB.out).rowT (k := k) (by rw [HL.out]; exact hkn) (by rw [HL.out]; exact hn1) HSZ.out)
              have hsB := BB.out.size
              refine step_app rfl _ _ 24 rfl wy.heap.size 75 j0 (.agg #[.int .i64 0, .string ByteArray.empty, .int .i64 0, .int .i64 0]) 4 40 Tryd.underlying24 YI.out Y0.out Y1.out Y2.out rfl (by decide) (.slice (some ⟨M0, 0, none⟩) 0 0) 0 _ rfl N0.out ⟨g, 0, none⟩ k cap (flatS (l.take k)) rfl (by rw [flatS_len, List.length_take, HL.out]; congr 1; omega) (news_steps XT.out) (one_steps _) (by unfold maxLen; omega) (by omega) (by omega) ?_
              intro x4 w4 hown4 hg4
              have B4 := Lib.hid (BB.out.grown hg4 hsB (fun j hj => (N0.out.lt j hj).1))
              have LB : Hid (w4.heap[L]? = some (.cells #[.int .i64 s.fr, .string s.le, .int .i64 s.to_, .int .i64 s.co] 75 (0, 0))) := (hg4.block L hLw (by intro e; simp [Value.ownBlock] at e; exact hLN e)).trans LA.out
              rw [Nat.zero_add, List.nil_append] at hown4
              have O4 := Lib.hid hown4
              refine hK3.out _ _ (K8.out _ B4.out) (fun hS3 => ?_)
              clear hK3 hown4 hg4 BB N0 XT hsB LA hLN hLw
              have BB := B4
              have hsb7 := BB.out.size
              refine wpAnyZ_step (i := 7) (by kernel_rfl) rfl (fun K7 hK7 => ?_)
              refine step_app rfl _ _ 24 rfl wy.heap.size 75 j0 (.agg #[.int .i64 0, .string ByteArray.empty, .int .i64 0, .int .i64 0]) 4 40 Tryd.underlying24 YI.out Y0.out Y1.out Y2.out rfl (by decide) _ k _ rfl O4.out ⟨L, 0, none⟩ 1 1 (stepC s) rfl rfl (World.news_of_block LB.out) (one_stepC s) (by unfold maxLen; omega) (by omega) (by omega) ?_
              intro x7 w7 hown7 hg7
              have B7 := Lib.hid (BB.out.grown hg7 BB.out.size (fun j hj => (O4.out.lt j hj).1))
              have O7 := Lib.hid hown7
              refine hK7.out _ _ (K8.out _ B7.out) (fun hS7 => ?_)
              clear hK7 hown7 hg7
              refine wpAnyZ_step (i := 11) (by kernel_rfl) rfl (fun K11 hK11 => ?_)
              have X7 := Lib.hid ((Xy.out.below B7.out).rowD (k := k) (c := cap) (by rw [HL.out]; exact hkn) (by rw [HL.out]; exact hnc) (by rw [HL.out]; exact hn1) HSZ.out)
              have hs7 := B7.out.size
              refine step_app rfl _ _ 24 rfl wy.heap.size 75 j0 (.agg #[.int .i64 0, .string ByteArray.empty, .int .i64 0, .int .i64 0]) 4 40 Tryd.underlying24 YI.out Y0.out Y1.out Y2.out rfl (by decide) _ (k + 1) _ rfl O7.out _ (n - k) (cap - k) (flatS (l.drop k)) (congrArg (fun p => Value.slice p (n - k) (cap - k)) (ite_some _ _)) (by rw [flatS_len, List.length_drop, HL.out]) (news_steps X7.out) (one_steps _) (by unfold maxLen; omega) (by omega) (by omega) ?_
              intro x11 w11 hown11 hg11
              have B11 := Lib.hid (B7.out.grown hg11 hs7 (fun j hj => (O7.out.lt j hj).1))
              have O11 := Lib.hid hown11
              refine hK11.out _ _ (K8.out _ B11.out) (fun hS11 => ?_)
              clear hK11 hown11 hg11 X7
              refine wpAnyZ_last (i := 12) (by kernel_rfl) rfl (by kernel_rfl) (fun K12 hK12 => ?_)
              go_simp
              refine hK12.out _ _ ?_
              clear hK12 hS hS1 hS2 hS3 hS7 hS11
              go_wp2_with fail
              all_goals
                go_ret
                have hn2 : k + 1 + (n - k) = n + 1 := by omega
                have O := O11.out
                rw [hn2] at O
                obtain ⟨g', cap', hx', _, _⟩ := O.form (by omega)
                subst hx'
                refine ⟨g', cap', rfl, ?_, Lib.hid (below_on By2.out B11.out)⟩
                show World.ownsRow _ _ _ _ _ _ _
                rw [HE.out, flatS_app, flatS_cons, ← List.append_assoc]
                exact own4_base O hwy

end Go.Proofs.YtfdbbopanankgaaDoor
namespace Go.Proofs.YtfdbbopanankgaaDoor
open Go.RowKit
set_option maxHeartbeats 8000000
set_option maxRecDepth 100000
set_option linter.unusedVariables false

theorem flatS_one (l : List StepD) : ∀ u ∈ flatS l, u.oneCell' = true := by
  induction l with
  | nil => intro u hu; cases hu
  | cons s r ih =>
    intro u hu
    rw [flatS_cons] at hu
    rcases List.mem_append.1 hu with h | h
    · exact one_stepC s u h
    · exact ih u h
theorem put_same (g cap n B : Nat) (l : List StepD) (s : StepD) (w : World) (h : w.ownsRow B 75 4 (.slice (some ⟨g, 0, none⟩) n cap) n (flatS l)) (hn : l.length = n) (hn1 : n ≤ 1000) (hm : ∀ t ∈ l, mvOk t) (hs : mvOk s) (hp : l.Pairwise fun x y => code x < code y) (k0 : Nat) (hkz : k0 < n) (heq : code (l.getD k0 default) = code s) :
    Calls Tryd.prog 44 #[.slice (some ⟨g, 0, none⟩) n cap, stepV s] w fun e w' => ∃ g' cap', e = .returned (.slice (some ⟨g', 0, none⟩) n cap') ∧ Hid (w'.ownsRow w.heap.size 75 4 (.slice (some ⟨g', 0, none⟩) n cap') n (flatS (putL l s))) ∧ Hid (Below w.heap.size w w') := by
  obtain ⟨j0, kj, kz0, kz1, kz2⟩ := info_step'
  have Y0 := Lib.hid kz0
  have Y1 := Lib.hid kz1
  have Y2 := Lib.hid kz2
  have YI := Lib.hid kj
  obtain ⟨ex, hx, hxl, hnc, hcm, _, _⟩ := SX.own h
  have HX := Lib.hid hx
  have HL := Lib.hid hn
  have HM := Lib.hid hm
  have HS := Lib.hid hs
  have HSO : Hid (∀ i j, i < j → j < n → code (l.getD i default) < code (l.getD j default)) := fun i j hij hj => by
    have h := List.pairwise_iff_getElem.1 hp i j (by omega) (by omega) hij
    rw [List.getD_eq_getElem?_getD, List.getD_eq_getElem?_getD, List.getElem?_eq_getElem (by omega), List.getElem?_eq_getElem (by omega)]
    exact h
  have HEQ := Lib.hid heq
  have hgw := Blk.lt hx
  clear kz0 kz1 kz2 kj h hx hxl hm hs hp heq hn
  unfold stepV
  go_enter Tryd.func44, Tryd.ntmps44
  go_upto_region 1 with fail
  obtain ⟨P, hP⟩ : ∃ P, P = w.heap.size := ⟨_, rfl⟩
  obtain ⟨w1, hw1⟩ : ∃ w1, w1 = w.alloc (.cells #[.int .i64 s.fr, .string s.le, .int .i64 s.to_, .int .i64 s.co] 75) := ⟨_, rfl⟩
  have P1 : Hid (Blk w1 P 75 #[.int .i64 s.fr, .string s.le, .int .i64 s.to_, .int .i64 s.co]) := by rw [hw1, hP]; exact Blk.new _ _ _
  have B1 : Hid (Below w.heap.size w w1) := by rw [hw1]; exact below_a1 w _
  have X1 : Hid (SX w1 g 75 l ex) := Lib.hid (HX.out.below B1.out)
  rw [← hw1, ← hP]
  have hwP : w.heap.size ≤ P := by omega
  have hw1s : w.heap.size ≤ w1.heap.size := B1.out.size
  clear hw1 hP HX
  go_wp2_with fail
  go_loopw [5] (fun a wr => ∃ k : Nat, k ≤ n ∧ a = .int .i64 k ∧ Hid (∀ j, j < k → befS (l.getD j default) s = true) ∧ Hid (Below w1.heap.size w1 wr)) (fun a _ => n - (intOf a).toNat)
  case atStart => exact ⟨0, Nat.zero_le _, rfl, fun j hj => absurd hj (Nat.not_lt_zero _), Below.refl _ _⟩
  case round =>
    obtain ⟨k, hk, rfl, hbe, hbw⟩ := hrel
    have Pr := Lib.hid (blk_b P1.out hbw.out)
    have Xr := Lib.hid (X1.out.below hbw.out)
    have hk0 : (0 : Int) ≤ (k : Int) := by omega
    by_cases hlt : k < n
    · have hk1 : (k : Int) < (n : Int) := by omega
      obtain ⟨x, hxg⟩ : ∃ x, l.getD k default = x := ⟨_, rfl⟩
      have hxm : x ∈ l := by rw [← hxg, List.getD_eq_getElem?_getD, List.getElem?_eq_getElem (by rw [HL.out]; exact hlt)]; simp
      have HXM := Lib.hid hxm
      have HXG := Lib.hid hxg
      obtain ⟨r, hr⟩ : ∃ r, befS x s = r := ⟨_, rfl⟩
      have HR := Lib.hid hr
      have LX := Lib.hid (HM.out x hxm).2.2.2.2
      have LS := Lib.hid HS.out.2.2.2.2
      have K2 : Hid (∀ w', Below wr.heap.size wr w' → (Hid (Below wr.heap.size wr w') ∧ w'.cell? ⟨g, k * 4, none⟩ = some (.int .i64 x.fr) ∧ w'.cell? ⟨g, k * 4 + 1, none⟩ = some (.string x.le) ∧ w'.cell? ⟨g, k * 4 + 2, none⟩ = some (.int .i64 x.to_) ∧ w'.cell? ⟨g, k * 4 + 3, none⟩ = some (.int .i64 x.co) ∧ w'.cell? ⟨P, 0, none⟩ = some (.int .i64 s.fr) ∧ w'.cell? ⟨P, 1, none⟩ = some (.string s.le) ∧ w'.cell? ⟨P, 2, none⟩ = some (.int .i64 s.to_) ∧ w'.cell? ⟨P, 3, none⟩ = some (.int .i64 s.co))) := fun w' h => by
        have a := (Xr.out.below h).at_ (k := k) (by rw [HL.out]; exact hlt)
        rw [HXG.out] at a
        have p := blk_b Pr.out h
        exact ⟨h, a.1, a.2.1, a.2.2.1, a.2.2.2, p.cell 0, p.cell 1, p.cell 2, p.cell 3⟩
      clear hxg hxm hr
      have hS0 := K2.out wr.drew ((Below.refl _ _).drew)
      go_upto_region 2 with fail
      go_cut [5, 18] (fun a b wx => a = .int .i64 k ∧ b = .bool r ∧ Hid (Below wr.heap.size wr wx))
      case first =>
        refine wp_region_Z (S := fun w' => Hid (Below wr.heap.size wr w') ∧ w'.cell? ⟨g, k * 4, none⟩ = some (.int .i64 x.fr) ∧ w'.cell? ⟨g, k * 4 + 1, none⟩ = some (.string x.le) ∧ w'.cell? ⟨g, k * 4 + 2, none⟩ = some (.int .i64 x.to_) ∧ w'.cell? ⟨g, k * 4 + 3, none⟩ = some (.int .i64 x.co) ∧ w'.cell? ⟨P, 0, none⟩ = some (.int .i64 s.fr) ∧ w'.cell? ⟨P, 1, none⟩ = some (.string s.le) ∧ w'.cell? ⟨P, 2, none⟩ = some (.int .i64 s.to_) ∧ w'.cell? ⟨P, 3, none⟩ = some (.int .i64 s.co)) (by kernel_rfl) hS0 (fun hS => ?_)
        clear hS0
        refine wpAnyZ_take (i := 0) (v := ?va0) rfl (by kernel_rfl) (by kernel_rfl) (by kernel_rfl) (by kernel_rfl) (fun _ _ _ h => h) (Or.inl ⟨by kernel_rfl, ?ya0⟩) (by with_reducible assumption) ?ra0
        case ya0 => (intro w hSw; (try dsimp only at hSw); go_simp; (try with_reducible rfl))
        simp only [Act.put, List.setIfInBounds_toArray]
        refine wpAnyZ_take (i := 1) (v := ?va1) rfl (by kernel_rfl) (by kernel_rfl) (by kernel_rfl) (by kernel_rfl) (fun _ _ _ h => h) (Or.inl ⟨by kernel_rfl, ?ya1⟩) (by with_reducible assumption) ?ra1
        case ya1 => (intro w hSw; (try dsimp only at hSw); go_simp; (try with_reducible rfl))
        simp only [Act.put]
        refine wpAnyZ_take (i := 2) (v := ?va2) rfl (by kernel_rfl) (by kernel_rfl) (by kernel_rfl) (by kernel_rfl) (fun _ _ _ h => h) (Or.inl ⟨by kernel_rfl, ?ya2⟩) (by with_reducible assumption) ?ra2
        case ya2 => (intro w hSw; (try dsimp only at hSw); go_simp; (try with_reducible rfl))
        simp only [Act.put]
        refine wpAnyZ_take (i := 3) (v := ?va3) rfl (by kernel_rfl) (by kernel_rfl) (by kernel_rfl) (by kernel_rfl) (fun _ _ _ h => h) (Or.inl ⟨by kernel_rfl, ?ya3⟩) (by with_reducible assumption) ?ra3
        case ya3 => (intro w hSw; (try dsimp only at hSw); go_simp; (try with_reducible rfl))
        simp only [Act.put]
        refine wpAnyZ_take (i := 4) (v := ?va4) rfl (by kernel_rfl) (by kernel_rfl) (by kernel_rfl) (by kernel_rfl) (fun _ _ _ h => h) (Or.inl ⟨by kernel_rfl, ?ya4⟩) (by with_reducible assumption) ?ra4
        case ya4 => (intro w hSw; (try dsimp only at hSw); go_simp; (try with_reducible rfl))
        simp only [Act.put]
        refine wpAnyZ_take (i := 5) (v := ?va5) rfl (by kernel_rfl) (by kernel_rfl) (by kernel_rfl) (by kernel_rfl) (fun _ _ _ h => h) (Or.inl ⟨by kernel_rfl, ?ya5⟩) (by with_reducible assumption) ?ra5
        case ya5 => (intro w hSw; (try dsimp only at hSw); go_simp; (try with_reducible rfl))
        simp only [Act.put]
        refine wpAnyZ_take (i := 6) (v := ?va6) rfl (by kernel_rfl) (by kernel_rfl) (by kernel_rfl) (by kernel_rfl) (fun _ _ _ h => h) (Or.inl ⟨by kernel_rfl, ?ya6⟩) (by with_reducible assumption) ?ra6
        case ya6 => (intro w hSw; (try dsimp only at hSw); go_simp; (try with_reducible rfl))
        simp only [Act.put]
        refine wpAnyZ_take (i := 7) (v := ?va7) rfl (by kernel_rfl) (by kernel_rfl) (by kernel_rfl) (by kernel_rfl) (fun _ _ _ h => h) (Or.inl ⟨by kernel_rfl, ?ya7⟩) (by with_reducible assumption) ?ra7
        case ya7 => (intro w hSw; (try dsimp only at hSw); go_simp; (try with_reducible rfl))
        simp only [Act.put]
        refine wpAnyZ_take (i := 8) (v := ?va8) rfl (by kernel_rfl) (by kernel_rfl) (by kernel_rfl) (by kernel_rfl) (fun _ _ _ h => h) (Or.inl ⟨by kernel_rfl, ?ya8⟩) (by with_reducible assumption) ?ra8
        case ya8 => (intro w hSw; (try dsimp only at hSw); go_simp; (try with_reducible rfl))
        simp only [Act.put]
        refine wpAnyZ_take (i := 9) (v := ?va9) rfl (by kernel_rfl) (by kernel_rfl) (by kernel_rfl) (by kernel_rfl) (fun _ _ _ h => h) (Or.inl ⟨by kernel_rfl, ?ya9⟩) (by with_reducible assumption) ?ra9
        case ya9 => (intro w hSw; (try dsimp only at hSw); go_simp; (try with_reducible rfl))
        simp only [Act.put]
        refine wpAnyZ_step (i := 10) (by kernel_rfl) rfl (fun K3 hK3 => ?_)
        go_simp
        refine (l3Before_is x s r _ LX.out LS.out HR.out).mono ?_
        rintro e wb ⟨rfl, hbb⟩
        have Bb := Lib.hid (below_on hS.1.out hbb.out)
        refine hK3.out _ _ (K2.out _ Bb.out) (fun hS1 => ?_)
        clear hK3
        refine wpAnyZ_last (i := 11) (by kernel_rfl) rfl (by kernel_rfl) (fun K4 hK4 => ?_)
        go_simp
        refine hK4.out _ _ ?_
        clear hK4
        go_wp2_with fail
        go_meet
        exact ⟨rfl, rfl, Bb⟩
      case rest =>
        obtain ⟨rfl, rfl, hbx⟩ := hcut
        generalize wc = wx at hbx ⊢
        have Bx := Lib.hid (below_on hbw.out hbx.out)
        cases r
        · have Px := Lib.hid (blk_b P1.out Bx.out)
          have Xx := Lib.hid (X1.out.below Bx.out)
          clear hS0 K2 Pr Xr hbx hbw
          have hcx : code x = code s := by
            have h1 := HR.out
            rw [bef_code (HM.out x HXM.out) HS.out] at h1
            have h2 : ¬ code x < code s := by simpa using h1
            have h3 := HEQ.out
            rcases Nat.lt_trichotomy k0 k with h | h | h
            · have hb := hbe.out k0 h
              have hmem : l.getD k0 default ∈ l := by rw [List.getD_eq_getElem?_getD, List.getElem?_eq_getElem (by rw [HL.out]; exact hkz)]; simp
              rw [bef_code (HM.out _ hmem) HS.out] at hb
              have hb' : code (l.getD k0 default) < code s := by simpa using hb
              omega
            · subst h
              rw [HXG.out] at h3
              exact h3
            · have h4 := HSO.out k k0 h hkz
              rw [HXG.out] at h4
              omega
          have hxs : befS s x = false := by
            rw [bef_code HS.out (HM.out x HXM.out)]
            simp
            omega
          have HXS := Lib.hid hxs
          have HE : Hid (putL l s = l.set k { x with co := min x.co s.co }) := by
            show _ = _
            rw [putL_at k l s (by rw [HL.out]; omega) hbe.out (Or.inr (by rw [HXG.out]; exact HR.out)), if_pos ⟨by rw [HL.out]; exact hlt, by rw [HXG.out, hxs]⟩, HXG.out]
          clear hcx hxs
          have K4 : Hid (∀ w', Below wx.heap.size wx w' → (Hid (Below wx.heap.size wx w') ∧ w'.cell? ⟨g, k * 4, none⟩ = some (.int .i64 x.fr) ∧ w'.cell? ⟨g, k * 4 + 1, none⟩ = some (.string x.le) ∧ w'.cell? ⟨g, k * 4 + 2, none⟩ = some (.int .i64 x.to_) ∧ w'.cell? ⟨g, k * 4 + 3, none⟩ = some (.int .i64 x.co) ∧ w'.cell? ⟨P, 0, none⟩ = some (.int .i64 s.fr) ∧ w'.cell? ⟨P, 1, none⟩ = some (.string s.le) ∧ w'.cell? ⟨P, 2, none⟩ = some (.int .i64 s.to_) ∧ w'.cell? ⟨P, 3, none⟩ = some (.int .i64 s.co))) := fun w' h => by
            have a := (Xx.out.below h).at_ (k := k) (by rw [HL.out]; exact hlt)
            rw [HXG.out] at a
            have p := blk_b Px.out h
            exact ⟨h, a.1, a.2.1, a.2.2.1, a.2.2.2, p.cell 0, p.cell 1, p.cell 2, p.cell 3⟩
          have hS0 := K4.out wx.drew ((Below.refl _ _).drew)
          go_upto_region 4 with fail
          go_cut [5, 33] (fun a b wy => a = .int .i64 k ∧ b = .bool true ∧ Hid (Below wx.heap.size wx wy))
          case first =>
            refine wp_region_Z (S := fun w' => Hid (Below wx.heap.size wx w') ∧ w'.cell? ⟨g, k * 4, none⟩ = some (.int .i64 x.fr) ∧ w'.cell? ⟨g, k * 4 + 1, none⟩ = some (.string x.le) ∧ w'.cell? ⟨g, k * 4 + 2, none⟩ = some (.int .i64 x.to_) ∧ w'.cell? ⟨g, k * 4 + 3, none⟩ = some (.int .i64 x.co) ∧ w'.cell? ⟨P, 0, none⟩ = some (.int .i64 s.fr) ∧ w'.cell? ⟨P, 1, none⟩ = some (.string s.le) ∧ w'.cell? ⟨P, 2, none⟩ = some (.int .i64 s.to_) ∧ w'.cell? ⟨P, 3, none⟩ = some (.int .i64 s.co)) (by kernel_rfl) hS0 (fun hS => ?_)
            clear hS0
            refine wpAnyZ_take (i := 0) (v := ?vb0) rfl (by kernel_rfl) (by kernel_rfl) (by kernel_rfl) (by kernel_rfl) (fun _ _ _ h => h) (Or.inl ⟨by kernel_rfl, ?yb0⟩) (by with_reducible assumption) ?rb0
            case yb0 => (intro w hSw; (try dsimp only at hSw); go_simp; (try with_reducible rfl))
            simp only [Act.put, List.setIfInBounds_toArray]
            refine wpAnyZ_take (i := 1) (v := ?vb1) rfl (by kernel_rfl) (by kernel_rfl) (by kernel_rfl) (by kernel_rfl) (fun _ _ _ h => h) (Or.inl ⟨by kernel_rfl, ?yb1⟩) (by with_reducible assumption) ?rb1
            case yb1 => (intro w hSw; (try dsimp only at hSw); go_simp; (try with_reducible rfl))
            simp only [Act.put]
            refine wpAnyZ_take (i := 2) (v := ?vb2) rfl (by kernel_rfl) (by kernel_rfl) (by kernel_rfl) (by kernel_rfl) (fun _ _ _ h => h) (Or.inl ⟨by kernel_rfl, ?yb2⟩) (by with_reducible assumption) ?rb2
            case yb2 => (intro w hSw; (try dsimp only at hSw); go_simp; (try with_reducible rfl))
            simp only [Act.put]
            refine wpAnyZ_take (i := 3) (v := ?vb3) rfl (by kernel_rfl) (by kernel_rfl) (by kernel_rfl) (by kernel_rfl) (fun _ _ _ h => h) (Or.inl ⟨by kernel_rfl, ?yb3⟩) (by with_reducible assumption) ?rb3
            case yb3 => (intro w hSw; (try dsimp only at hSw); go_simp; (try with_reducible rfl))
            simp only [Act.put]
            refine wpAnyZ_take (i := 4) (v := ?vb4) rfl (by kernel_rfl) (by kernel_rfl) (by kernel_rfl) (by kernel_rfl) (fun _ _ _ h => h) (Or.inl ⟨by kernel_rfl, ?yb4⟩) (by with_reducible assumption) ?rb4
            case yb4 => (intro w hSw; (try dsimp only at hSw); go_simp; (try with_reducible rfl))
            simp only [Act.put]
            refine wpAnyZ_take (i := 5) (v := ?vb5) rfl (by kernel_rfl) (by kernel_rfl) (by kernel_rfl) (by kernel_rfl) (fun _ _ _ h => h) (Or.inl ⟨by kernel_rfl, ?yb5⟩) (by with_reducible assumption) ?rb5
            case yb5 => (intro w hSw; (try dsimp only at hSw); go_simp; (try with_reducible rfl))
            simp only [Act.put]
            refine wpAnyZ_take (i := 6) (v := ?vb6) rfl (by kernel_rfl) (by kernel_rfl) (by kernel_rfl) (by kernel_rfl) (fun _ _ _ h => h) (Or.inl ⟨by kernel_rfl, ?yb6⟩) (by with_reducible assumption) ?rb6
            case yb6 => (intro w hSw; (try dsimp only at hSw); go_simp; (try with_reducible rfl))
            simp only [Act.put]
            refine wpAnyZ_take (i := 7) (v := ?vb7) rfl (by kernel_rfl) (by kernel_rfl) (by kernel_rfl) (by kernel_rfl) (fun _ _ _ h => h) (Or.inl ⟨by kernel_rfl, ?yb7⟩) (by with_reducible assumption) ?rb7
            case yb7 => (intro w hSw; (try dsimp only at hSw); go_simp; (try with_reducible rfl))
            simp only [Act.put]
            refine wpAnyZ_take (i := 8) (v := ?vb8) rfl (by kernel_rfl) (by kernel_rfl) (by kernel_rfl) (by kernel_rfl) (fun _ _ _ h => h) (Or.inl ⟨by kernel_rfl, ?yb8⟩) (by with_reducible assumption) ?rb8
            case yb8 => (intro w hSw; (try dsimp only at hSw); go_simp; (try with_reducible rfl))
            simp only [Act.put]
            refine wpAnyZ_take (i := 9) (v := ?vb9) rfl (by kernel_rfl) (by kernel_rfl) (by kernel_rfl) (by kernel_rfl) (fun _ _ _ h => h) (Or.inl ⟨by kernel_rfl, ?yb9⟩) (by with_reducible assumption) ?rb9
            case yb9 => (intro w hSw; (try dsimp only at hSw); go_simp; (try with_reducible rfl))
            simp only [Act.put]
            refine wpAnyZ_step (i := 10) (by kernel_rfl) rfl (fun K5 hK5 => ?_)
            go_simp
            refine (l3Before_is s x false _ LS.out LX.out HXS.out).mono ?_
            rintro e wb ⟨rfl, hbb⟩
            have Bb := Lib.hid (below_on hS.1.out hbb.out)
            refine hK5.out _ _ (K4.out _ Bb.out) (fun hS1 => ?_)
            clear hK5
            refine wpAnyZ_take (i := 11) (v := ?vb11) rfl (by kernel_rfl) (by kernel_rfl) (by kernel_rfl) (by kernel_rfl) (fun _ _ _ h => h) (Or.inl ⟨by kernel_rfl, ?yb11⟩) (by with_reducible assumption) ?rb11
            case yb11 => (intro w hSw; (try dsimp only at hSw); go_simp; (try with_reducible rfl))
            simp only [Act.put]
            refine wpAnyZ_last (i := 12) (by kernel_rfl) rfl (by kernel_rfl) (fun K6 hK6 => ?_)
            go_simp
            refine hK6.out _ _ ?_
            clear hK6
            go_wp2_with fail
            go_meet
            exact ⟨rfl, rfl, Bb⟩
          case rest =>
            obtain ⟨rfl, rfl, hby⟩ := hcut
            generalize wc = wy at hby ⊢
            have By := Lib.hid (below_on Bx.out hby.out)
            have Py := Lib.hid (blk_b P1.out By.out)
            have Xy := Lib.hid (X1.out.below By.out)
            clear hS0 K4 Px Xx hby Bx
            have HFL : Hid ((flatS l).length = n * 4) := by show _ = _; rw [flatS_len, HL.out]
            have hn0 : 0 < n := by omega
            have NW : Hid (∀ o j u, (flatS l)[j]? = some u → (wy.alloc o).cell? ((⟨g, 0, none⟩ : Addr).add j) = some u) := fun o j u hj => by
              refine World.news_of_block (Blk.alloc Xy.out o) j u ?_
              have hjl : j < (flatS l).length := (List.getElem?_eq_some_iff.1 hj).1
              simpa [List.getElem?_append_left hjl] using hj
            have ON : Hid (∀ u ∈ flatS l, u.oneCell' = true) := flatS_one l
            have hwy := (below_on B1.out By.out).size
            have hgy : g < wy.heap.size := Blk.lt Xy.out
            go_wp2_with (first
              | (at_builtin; refine wpList_append_lies _ rfl _ _ 24 rfl wy.heap.size 75 j0 (.agg #[.int .i64 0, .string ByteArray.empty, .int .i64 0, .int .i64 0]) 4 40 Tryd.underlying24 YI.out Y0.out Y1.out Y2.out rfl (by decide) _ 0 [] rfl (own_nil wy _ 0) ⟨g, 0, none⟩ n cap (flatS l) rfl HFL.out (NW.out _) ON.out hn0 ?g3 ?g4 ?g5 _ rfl ?_)
              | fail)
            case g3 => unfold maxLen; omega
            case g4 => omega
            case g5 => simp
            intro g6 cap' w6 hown' hgrow hat hlt'
            obtain ⟨ex6, hx6, hxl6, hnc6, hcm6, hB6, _⟩ := SX.own hown'
            have B6 := Lib.hid ((((Below.refl _ wy).alloc (Nat.le_refl _) (.cells #[] 75))).grown hgrow (by simp) (fun j hj => by cases hj; exact Nat.le_refl _))
            have P6 := Lib.hid (blk_b Py.out B6.out)
            have X6 := Lib.hid hx6
            have A6 := Lib.hid (hx6.at_ (k := k) (by rw [HL.out]; exact hlt))
            clear hown' hgrow hat hlt' hx6
            have K6 : Hid (∀ w', Below w6.heap.size w6 w' → (Hid (Below w6.heap.size w6 w') ∧ w'.cell? ⟨g6, k * 4 + 3, none⟩ = some (.int .i64 x.co) ∧ w'.frozen? ⟨g6, k * 4 + 3, none⟩ = false ∧ w'.cell? ⟨P, 3, none⟩ = some (.int .i64 s.co))) := fun w' h => by
              have a := (X6.out.below h).at_ (k := k) (by rw [HL.out]; exact hlt)
              rw [HXG.out] at a
              exact ⟨h, a.2.2.2, (X6.out.below h).fz _, (blk_b P6.out h).cell 3⟩
            have hS0 := K6.out w6.drew ((Below.refl _ _).drew)
            clear A6
            go_upto_region 6 with fail
            refine wp_region_Z (S := fun w' => Hid (Below w6.heap.size w6 w') ∧ w'.cell? ⟨g6, k * 4 + 3, none⟩ = some (.int .i64 x.co) ∧ w'.frozen? ⟨g6, k * 4 + 3, none⟩ = false ∧ w'.cell? ⟨P, 3, none⟩ = some (.int .i64 s.co)) (by kernel_rfl) hS0 (fun hS => ?_)
            clear hS0
            refine wpAnyZ_take (i := 0) (v := ?vd0) rfl (by kernel_rfl) (by kernel_rfl) (by kernel_rfl) (by kernel_rfl) (fun _ _ _ h => h) (Or.inl ⟨by kernel_rfl, ?yd0⟩) (by with_reducible assumption) ?rd0
            case yd0 => (intro w hSw; (try dsimp only at hSw); go_simp; (try with_reducible rfl))
            simp only [Act.put, List.setIfInBounds_toArray]
            refine wpAnyZ_take (i := 1) (v := ?vd1) rfl (by kernel_rfl) (by kernel_rfl) (by kernel_rfl) (by kernel_rfl) (fun _ _ _ h => h) (Or.inl ⟨by kernel_rfl, ?yd1⟩) (by with_reducible assumption) ?rd1
            case yd1 => (intro w hSw; (try dsimp only at hSw); go_simp; (try with_reducible rfl))
            simp only [Act.put]
            refine wpAnyZ_take (i := 2) (v := ?vd2) rfl (by kernel_rfl) (by kernel_rfl) (by kernel_rfl) (by kernel_rfl) (fun _ _ _ h => h) (Or.inl ⟨by kernel_rfl, ?yd2⟩) (by with_reducible assumption) ?rd2
            case yd2 => (intro w hSw; (try dsimp only at hSw); go_simp; (try with_reducible rfl))
            simp only [Act.put]
            refine wpAnyZ_take (i := 3) (v := ?vd3) rfl (by kernel_rfl) (by kernel_rfl) (by kernel_rfl) (by kernel_rfl) (fun _ _ _ h => h) (Or.inl ⟨by kernel_rfl, ?yd3⟩) (by with_reducible assumption) ?rd3
            case yd3 => (intro w hSw; (try dsimp only at hSw); go_simp; (try with_reducible rfl))
            simp only [Act.put]
            refine wpAnyZ_take (i := 4) (v := ?vd4) rfl (by kernel_rfl) (by kernel_rfl) (by kernel_rfl) (by kernel_rfl) (fun _ _ _ h => h) (Or.inl ⟨by kernel_rfl, ?yd4⟩) (by with_reducible assumption) ?rd4
            case yd4 => (intro w hSw; (try dsimp only at hSw); go_simp; (try with_reducible rfl))
            simp only [Act.put]
            refine wpAnyZ_take (i := 5) (v := ?vd5) rfl (by kernel_rfl) (by kernel_rfl) (by kernel_rfl) (by kernel_rfl) (fun _ _ _ h => h) (Or.inl ⟨by kernel_rfl, ?yd5⟩) (by with_reducible assumption) ?rd5
            case yd5 => (intro w hSw; (try dsimp only at hSw); go_simp; (try with_reducible rfl))
            simp only [Act.put]
            refine wpAnyZ_take (i := 6) (v := ?vd6) rfl (by kernel_rfl) (by kernel_rfl) (by kernel_rfl) (by kernel_rfl) (fun _ _ _ h => h) (Or.inl ⟨by kernel_rfl, ?yd6⟩) (by with_reducible assumption) ?rd6
            case yd6 => (intro w hSw; (try dsimp only at hSw); go_simp; (try with_reducible rfl))
            simp only [Act.put]
            refine wpAnyZ_take (i := 7) (v := ?vd7) rfl (by kernel_rfl) (by kernel_rfl) (by kernel_rfl) (by kernel_rfl) (fun _ _ _ h => h) (Or.inl ⟨by kernel_rfl, ?yd7⟩) (by with_reducible assumption) ?rd7
            case yd7 => (intro w hSw; (try dsimp only at hSw); go_simp; (try with_reducible rfl))
            simp only [Act.put]
            refine wpAnyZ_take (i := 8) (v := ?vd8) rfl (by kernel_rfl) (by kernel_rfl) (by kernel_rfl) (by kernel_rfl) (fun _ _ _ h => h) (Or.inl ⟨by kernel_rfl, ?yd8⟩) (by with_reducible assumption) ?rd8
            case yd8 => (intro w hSw; (try dsimp only at hSw); go_simp; (try with_reducible rfl))
            simp only [Act.put]
            refine wpAnyZ_take (i := 9) (v := ?vd9) rfl (by kernel_rfl) (by kernel_rfl) (by kernel_rfl) (by kernel_rfl) (fun _ _ _ h => h) (Or.inl ⟨by kernel_rfl, ?yd9⟩) (by with_reducible assumption) ?rd9
            case yd9 => (intro w hSw; (try dsimp only at hSw); go_simp; (try with_reducible rfl))
            simp only [Act.put]
            refine wpAnyZ_take (i := 10) (v := ?vd10) rfl (by kernel_rfl) (by kernel_rfl) (by kernel_rfl) (by kernel_rfl) (fun _ _ _ h => h) (Or.inl ⟨by kernel_rfl, ?yd10⟩) (by with_reducible assumption) ?rd10
            case yd10 => (intro w hSw; (try dsimp only at hSw); go_simp; (try with_reducible rfl))
            simp only [Act.put]
            refine wpAnyZ_take (i := 11) (v := ?vd11) rfl (by kernel_rfl) (by kernel_rfl) (by kernel_rfl) (by kernel_rfl) (fun _ _ _ h => h) (Or.inl ⟨by kernel_rfl, ?yd11⟩) (by with_reducible assumption) ?rd11
            case yd11 => (intro w hSw; (try dsimp only at hSw); go_simp; (try with_reducible rfl))
            simp only [Act.put]
            refine wpAnyZ_last (i := 12) (by kernel_rfl) rfl (by kernel_rfl) (fun K7 hK7 => ?_)
            have HXL6 := Lib.hid hxl6
            clear hxl6
            go_simp
            refine hK7.out _ _ ?_
            clear hK7
            have X7 := Lib.hid ((X6.out.below hS.1.out).of_set (i := k * 4 + 3) (u := .int .i64 (min x.co s.co)) (by rw [HL.out]; omega) (flatS_set3 l k (min x.co s.co) (by rw [HL.out]; exact hlt)))
            have B7 := Lib.hid ((below_on B6.out hS.1.out).setCell (p := ⟨g6, k * 4 + 3, none⟩) (show wy.heap.size ≤ g6 from hB6) (.int .i64 (min x.co s.co)))
            go_wp2_with fail
            go_ret
            have hxl6 := HXL6.out
            refine ⟨g6, cap', rfl, ?_, Lib.hid (below_on (below_on B1.out By.out) B7.out)⟩
            show World.ownsRow _ _ _ _ _ _ _
            have X8 := X7.out
            rw [HXG.out, ← HE.out] at X8
            have hlp : (putL l s).length = n := by rw [HE.out, List.length_set, HL.out]
            exact SX.to_own X8 (by rw [hlp]; have := HFL.out; simp only [List.length_append] at hxl6; omega) hlp hnc6 hcm6 (by omega)
        · have HBN : Hid (∀ j, j < k + 1 → befS (l.getD j default) s = true) := fun j hj => by
            rcases Nat.lt_or_ge j k with h | h
            · exact hbe.out j h
            · have e : j = k := by omega
              rw [e, HXG.out]; exact HR.out
          clear hS0 K2
          go_wp2_with fail
          go_roundw
          case rel => exact ⟨k + 1, by omega, by go_num, HBN, Bx⟩
          case measure => simp [intOf]; omega
    · exfalso
      have hb := hbe.out k0 (by omega)
      have hmem : l.getD k0 default ∈ l := by rw [List.getD_eq_getElem?_getD, List.getElem?_eq_getElem (by rw [HL.out]; exact hkz)]; simp
      rw [bef_code (HM.out _ hmem) HS.out, HEQ.out] at hb
      simp at hb
end Go.Proofs.YtfdbbopanankgaaDoor
namespace Go.Proofs.YtfdbbopanankgaaDoor
open Go.RowKit
set_option maxHeartbeats 1000000
set_option maxRecDepth 100000
set_option linter.unusedVariables false

theorem putL_all (q : StepD → Prop) (s : StepD) (hs : ∀ u, u.fr = s.fr → u.le = s.le → u.to_ = s.to_ → q u) (hq : ∀ t u, q t → u.fr = t.fr → u.le = t.le → u.to_ = t.to_ → q u) : ∀ l : List StepD, (∀ t ∈ l, q t) → ∀ t ∈ putL l s, q t
  | [], _, t, ht => by simp [putL] at ht; subst ht; exact hs _ rfl rfl rfl
  | u :: us, hm, t, ht => by
    have hu := hm u (by simp)
    have ih := putL_all q s hs hq us (fun v hv => hm v (List.mem_cons_of_mem _ hv))
    unfold putL at ht
    split at ht
    · rcases List.mem_cons.1 ht with rfl | h
      · exact hu
      · exact ih t h
    · split at ht
      · rcases List.mem_cons.1 ht with rfl | h
        · exact hs _ rfl rfl rfl
        · exact hm t h
      · rcases List.mem_cons.1 ht with rfl | h
        · exact hq _ _ hu rfl rfl rfl
        · exact hm t (List.mem_cons_of_mem _ h)
theorem putL_sorted {s : StepD} (hs : mvOk s) : ∀ {l : List StepD}, (∀ t ∈ l, mvOk t) → l.Pairwise (fun x y => code x < code y) → (putL l s).Pairwise (fun x y => code x < code y)
  | [], _, _ => by simp [putL]
  | t :: ts, hm, hp => by
    rw [List.pairwise_cons] at hp
    have ih := putL_sorted hs (fun u hu => hm u (List.mem_cons_of_mem _ hu)) hp.2
    have ht := hm t (by simp)
    unfold putL
    rw [bef_code ht hs, bef_code hs ht]
    by_cases h1 : code t < code s
    · rw [if_pos (by simpa using h1)]
      refine List.pairwise_cons.2 ⟨fun u hu => ?_, ih⟩
      exact putL_all (fun u => code t < code u) s (fun u a b c => by show code t < code u; unfold code at h1 ⊢; rw [a, b, c]; exact h1) (fun v u hv a b c => by show code t < code u; have hv' : code t < code v := hv; unfold code at hv' ⊢; rw [a, b, c]; exact hv') ts (fun v hv => hp.1 v hv) u hu
    · by_cases h2 : code s < code t
      · rw [if_neg (by simpa using h1), if_pos (by simpa using h2)]
        refine List.pairwise_cons.2 ⟨fun u hu => ?_, List.pairwise_cons.2 hp⟩
        rcases List.mem_cons.1 hu with rfl | h
        · exact h2
        · have := hp.1 u h; omega
      · rw [if_neg (by simpa using h1), if_neg (by simpa using h2)]
        exact List.pairwise_cons.2 ⟨fun u hu => hp.1 u hu, hp.2⟩
theorem putG_any (g cap n B : Nat) (l : List StepD) (s : StepD) (w : World) (h : w.ownsRow B 75 4 (.slice (some ⟨g, 0, none⟩) n cap) n (flatS l)) (hn : l.length = n) (hn1 : n ≤ 1000) (hm : ∀ t ∈ l, mvOk t) (hs : mvOk s) (hp : l.Pairwise fun x y => code x < code y) :
    Calls Tryd.prog 44 #[.slice (some ⟨g, 0, none⟩) n cap, stepV s] w fun e w' => ∃ g' cap' n', e = .returned (.slice (some ⟨g', 0, none⟩) n' cap') ∧ (putL l s).length = n' ∧ Hid (w'.ownsRow w.heap.size 75 4 (.slice (some ⟨g', 0, none⟩) n' cap') n' (flatS (putL l s))) ∧ Hid (Below w.heap.size w w') := by
  by_cases hne : ∀ t ∈ l, ¬ code t = code s
  · refine (put_any g cap n B l s w h hn hn1 hm hs hne).mono ?_
    rintro e w' ⟨g', cap', rfl, ho, hb⟩
    exact ⟨g', cap', n + 1, rfl, by have := ho.out.1; rw [flatS_len] at this; omega, ho, hb⟩
  · obtain ⟨t, ht, hc⟩ : ∃ t ∈ l, code t = code s := by simpa using hne
    obtain ⟨k0, hk0, rfl⟩ := List.getElem_of_mem ht
    refine (put_same g cap n B l s w h hn hn1 hm hs hp k0 (by omega) (by rw [List.getD_eq_getElem?_getD, List.getElem?_eq_getElem hk0]; exact hc)).mono ?_
    rintro e w' ⟨g', cap', rfl, ho, hb⟩
    exact ⟨g', cap', n, rfl, by have := ho.out.1; rw [flatS_len] at this; omega, ho, hb⟩
end Go.Proofs.YtfdbbopanankgaaDoor
