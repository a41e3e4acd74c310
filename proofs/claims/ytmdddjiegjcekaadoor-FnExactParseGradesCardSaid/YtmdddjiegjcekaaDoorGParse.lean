/- ParseGrades, the program's and the model's: what the text reads as, in new memory; nothing that was there changes. Conditions: at most 2^20 bytes; the library's limit of short texts reads as some number. -/
import Derived.Test.YtmdddjiegjcekaaDoorGPar
import Derived.Test.YtmdddjiegjcekaaDoorGVal
import Derived.Test.YtmdddjiegjcekaaDoorFace
import Derived.Test.YtmdddjiegjcekaaDoorVar
import Derived.Test.YtmdddjiegjcekaaDoorSpec
import Derived.Deep.AppendLies
namespace Go.Proofs.YtmdddjiegjcekaaDoor
open Go.RowKit
set_option maxHeartbeats 4000000
set_option maxRecDepth 100000
set_option linter.unusedVariables false

theorem len_le {q : ByteArray} {j : Nat} (h : q.size ≤ j) : q.data.toList.length ≤ j := by simpa using h
theorem g_strokes (s : ByteArray) : (Lib.splitB ⟨#[47]⟩ 0 (Lib.countB s ⟨#[47]⟩) s).map (·.data.toList) = cutL 47 s.data.toList := by
  rw [Lib.splitB_data]
  exact split_cut 47 s.data.toList
theorem g_own_set {w : World} {base n k : Nat} {t t' : TypeId} {x : Value} {xs : List Value} {cs : Array Value} (ho : w.ownsRow base t 1 x n xs) (hk : Blk w k t' cs) (hne : t ≠ t') (i : Nat) (v : Value) : (w.setCell ⟨k, i, none⟩ v).ownsRow base t 1 x n xs := by
  refine ho.kept (grow_set w k i v) ?_
  have := own_other ho hk hne
  rcases h0 : x.ownBlock with _ | j
  · exact Or.inl rfl
  · right; intro he; exact this (by rw [h0]; exact he.symm)
theorem iByte_v (c : UInt8) (v : Int) (w : World) (hv : fnd c = v) :
    Calls Tryd.prog 14 #[.string ⟨#[48, 49, 119, 45]⟩, .int .u8 (c.toNat : Int)] w fun e w' => e = .returned (.int .i64 v) ∧ w = w' := by
  subst hv; exact iByte_is c w
theorem sFind_v (c : UInt8) (v : Int) (w : World) (hv : fnd c = v) :
    Calls Tryd.prog 10 #[.string ⟨#[48, 49, 119, 45]⟩, .int .u8 (c.toNat : Int)] w fun e w' => e = .returned (.int .i64 v) ∧ w = w' := l13Find_is _ v w hv

theorem iParseG_any (s : ByteArray) (w : World) (hs : s.size ≤ 1048576) (hmax : MaxC w) :
    Calls Tryd.prog 5 #[.string s] w fun e w' => MEnd (parseG s.data.toList) w e w' := by
  obtain ⟨i0, hi, hz0, hz1, hz2⟩ := info_parts info_int
  have hmlt := hmax.lt
  obtain ⟨mx, hmx⟩ := hmax
  have hsz : s.data.toList.length = s.size := by simp
  obtain ⟨ps, hps⟩ : ∃ ps, ps = Lib.splitB ⟨#[47]⟩ 0 (Lib.countB s ⟨#[47]⟩) s := ⟨_, rfl⟩
  have hlen : ps.length = Lib.countB s ⟨#[47]⟩ + 1 := by rw [hps]; exact Lib.splitB_all _ (by decide) 0 _ s rfl
  have hmap : ps.map (·.data.toList) = cutL 47 s.data.toList := by rw [hps]; exact g_strokes s
  have hcl : (cutL 47 s.data.toList).length = ps.length := by rw [← hmap]; simp
  have hfew : ps.length ≤ 1048577 := by have := pieces_few 47 s.data.toList; omega
  obtain ⟨n, hn⟩ : ∃ n, n = ps.length := ⟨_, rfl⟩
  have hsp := Tryd.strings_Split s ⟨#[47]⟩ mx (w.alloc (.cells #[.int .i64 0, .slice none 0 0] 24)) (by omega) (((below_a1 w (.cells #[.int .i64 0, .slice none 0 0] 24)).cell (p := ⟨0, 0, none⟩) hmlt).trans hmx) (by decide)
  rw [← hps, ← hlen, ← hn] at hsp
  have HSP := Lib.hid hsp
  have HP := Lib.hid hmap
  have HN := Lib.hid hn
  have HCL := Lib.hid (hcl.trans hn.symm)
  have HSZ := Lib.hid hsz
  have hn1 : n ≤ 1048577 := by omega
  have hn0 : 1 ≤ n := by omega
  obtain ⟨Q, hQ⟩ : ∃ Q, Q = cutL 47 s.data.toList := ⟨_, rfl⟩
  have HQ := Lib.hid hQ
  have Z0 := Lib.hid hz0
  have Z1 := Lib.hid hz1
  have Z2 := Lib.hid hz2
  have ZI := Lib.hid hi
  clear hps hlen hmap hcl hfew hsp hn hsz hz0 hz1 hz2 hi hmx hQ
  go_enter Tryd.func5, Tryd.ntmps5
  go_wp2_with fail
  refine HSP.out.mono ?_
  rintro e w1' ⟨rfl, hw1⟩
  obtain ⟨wa, hwa⟩ : ∃ wa, wa = w1' := ⟨_, rfl⟩
  have hblk : wa.heap[w.heap.size + 1]? = some (.cells (ps.map Value.string).toArray 9 (0, 0)) := by rw [hwa, hw1]; have := heap_alloc_new (w.alloc (.cells #[.int .i64 0, .slice none 0 0] 24)) (.cells (ps.map Value.string).toArray 9 (0, 0)); simpa using this
  have hbA : Below w.heap.size w wa := by rw [hwa, hw1]; exact below_a2 _ _ _
  have hR : Blk wa w.heap.size 24 #[.int .i64 0, .slice none 0 0] := by rw [hwa, hw1]; exact (Blk.new _ _ _).alloc _
  have hsz1 : wa.heap.size = w.heap.size + 2 := by rw [hwa, hw1]; simp
  rw [← hwa]
  have HBLK := Lib.hid hblk
  have HBA := Lib.hid hbA
  have HR := Lib.hid hR
  have HS1 := Lib.hid hsz1
  clear hw1 hwa hblk hbA hR hsz1
  go_wp2_with fail
  by_cases h4 : n ≤ 4
  · refine (sizeValid_t _ _ (by omega) (by omega)).mono ?_
    rintro e w' ⟨rfl, rfl⟩
    obtain ⟨w1, hw1⟩ : ∃ w1, w1 = wa.alloc (.cells #[.int .i64 n, .slice none 0 0] 24) := ⟨_, rfl⟩
    obtain ⟨M, hM⟩ : ∃ M, M = wa.heap.size := ⟨_, rfl⟩
    have M2 : Hid (Blk w1 M 24 #[.int .i64 n, .slice none 0 0]) := by rw [hw1, hM]; exact Blk.new _ _ _
    have R2 : Hid (Blk w1 w.heap.size 24 #[.int .i64 0, .slice none 0 0]) := by rw [hw1]; exact HR.out.alloc _
    have B2 : Hid (Below w.heap.size w w1) := by rw [hw1]; exact below_al HBA.out (Nat.le_refl _) _
    have HSB : Hid (w1.heap[w.heap.size + 1]? = some (.cells (ps.map Value.string).toArray 9 (0, 0))) := by rw [hw1]; exact (Below.heap_alloc _ _ _ (by have := HS1.out; omega)).trans HBLK.out
    have O2 : Hid (w1.ownsRow w.heap.size 3 1 (.slice none 0 0) 0 []) := World.ownsRow_nil _ _ _ _
    have hMg : ¬ w.heap.size + 1 = M := by have := HS1.out; omega
    have hMle : w.heap.size ≤ M := by have := HS1.out; omega
    have hMR : ¬ M = w.heap.size := by have := HS1.out; omega
    rw [← hw1, ← hM]
    obtain ⟨gS, hgS⟩ : ∃ gS, gS = w.heap.size + 1 := ⟨_, rfl⟩
    rw [← hgS] at HSB hMg ⊢
    have G2 : Hid (w1.heap[gS]? = w1.heap[gS]?) := rfl
    have HC : Hid (∀ k (hk : k < ps.length), w1.cell? ⟨gS, k, none⟩ = some (.string ps[k])) := fun k hk => by
      rw [cell_of_row w1 gS k _ _ (0, 0) HSB.out, List.getElem?_toArray, List.getElem?_map, List.getElem?_eq_getElem hk]; rfl
    clear hM hw1 HBLK HR HBA HSP HS1 hgS
    go_wp2_with fail
    go_loopw [21] (fun i wr => ∃ (k c0 : Nat) (A0 : Option Addr) (cap0 : Nat) (vs : List Int), k ≤ n ∧ i = .int .i64 k ∧ Hid (vs.length = c0) ∧ Hid (c0 ≤ k * n) ∧ Hid (vs = fnds (Q.take k)) ∧ Hid (lensOk n (Q.take k) = true) ∧ Hid (wr.ownsRow w.heap.size 3 1 (.slice A0 c0 cap0) c0 (vs.map (Value.int .i64))) ∧ Hid (Below w.heap.size w wr) ∧ Hid (Blk wr w.heap.size 24 #[.int .i64 0, .slice none 0 0]) ∧ Hid (Blk wr M 24 #[.int .i64 n, .slice A0 c0 cap0]) ∧ Hid (wr.heap[gS]? = w1.heap[gS]?)) (fun i _ => n - (intOf i).toNat)
    case atStart => exact ⟨0, 0, _, 0, [], Nat.zero_le _, rfl, rfl, Nat.zero_le _, rfl, rfl, O2.out, B2.out, R2.out, M2.out, rfl⟩
    case round =>
      obtain ⟨k, c0, A0, cap0, vs, hk, rfl, hvl, hcb', hve, hlo, hown, hbw, hr, hm, hg⟩ := hrel
      by_cases hlt : k < n
      · have hlt' : k < ps.length := by rw [← HN.out]; exact hlt
        obtain ⟨hd, hpsz⟩ := piece_at HP.out hlt'
        have hcq := HC.out k hlt'
        obtain ⟨q, hqe⟩ : ∃ q, q = ps[k] := ⟨_, rfl⟩
        rw [← hqe] at hcq hd hpsz
        have hq : q.size ≤ 1048576 := by have := HSZ.out; omega
        have hc : wr.cell? ⟨gS, k, none⟩ = some (.string q) := (World.cell?_of_block (a := ⟨gS, k, none⟩) hg.out).trans hcq
        rw [← HQ.out] at hd
        have HD := Lib.hid hd
        have HCQ := Lib.hid hcq
        have hcb : Hid (c0 ≤ k * n + 0) := hcb'.out
        have i2 : (0 : Int) ≤ (k : Int) := by omega
        have i3 : (k : Int) < (n : Int) := by omega
        clear hd hqe hpsz hcq hcb'
        by_cases hqn : q.size = n
        · have hqb : ((q.size : Int) != (n : Int)) = false := by rw [bne_eq_false_iff_eq]; omega
          have HQN := Lib.hid hqn
          obtain ⟨m0, m1⟩ := two_cells hm.out
          clear hqn
          go_wp2_with fail
          clear m0 m1
          go_loopw [33] (fun i wr => ∃ (j c : Nat) (Ao : Option Addr) (capo : Nat) (us : List Int), j ≤ q.size ∧ i = .int .i64 j ∧ Hid (us.length = c) ∧ Hid (c ≤ k * n + j) ∧ Hid (us = fnds (Q.take k) ++ (q.data.toList.take j).map fnd) ∧ Hid (wr.ownsRow w.heap.size 3 1 (.slice Ao c capo) c (us.map (Value.int .i64))) ∧ Hid (Below w.heap.size w wr) ∧ Hid (Blk wr w.heap.size 24 #[.int .i64 0, .slice none 0 0]) ∧ Hid (Blk wr M 24 #[.int .i64 n, .slice Ao c capo]) ∧ Hid (wr.heap[gS]? = w1.heap[gS]?)) (fun i _ => q.size - (intOf i).toNat)
          case atStart => exact ⟨0, c0, A0, cap0, vs, Nat.zero_le _, rfl, hvl.out, hcb.out, (by rw [List.take_zero, List.map_nil, List.append_nil]; exact hve.out), hown.out, hbw.out, hr.out, hm.out, hg.out⟩
          case round =>
            clear hvl hcb hve hown hbw hr hm hg
            obtain ⟨j, c, Ao, capo, us, hj, rfl, hul, hcj, hue, hown, hbw, hr, hm, hg⟩ := hrel
            by_cases hlj : j < q.size
            · have hcc : Hid (c ≤ 1200000000000) := by show c ≤ _; have h1 := hcj.out; have h2 : k * n ≤ 1048577 * 1048577 := Nat.mul_le_mul (by omega) hn1; omega
              obtain ⟨v, hv⟩ : ∃ v, fnd (q[j]) = v := ⟨_, rfl⟩
              have HV := Lib.hid hv
              have KS : Hid (∀ w', Blk w' M 24 #[.int .i64 n, .slice Ao c capo] → w'.cell? ⟨M, 1, none⟩ = some (.slice Ao c capo)) := fun w' h => h.cell 1
              have hgl : gS < (wr.drewN 1).heap.size := by
                have h1 : wr.cell? ⟨gS, k, none⟩ = some (.string q) := (World.cell?_of_block (a := ⟨gS, k, none⟩) hg.out).trans HCQ.out
                exact lt_of_cell? h1
              have i0' : (0 : Int) ≤ (j : Int) := by omega
              have i1 : (j : Int) < (q.size : Int) := by omega
              have hS0 := KS.out wr.drew hm.out
              clear hv
              go_wp2_with fail
              refine wp_region_Z (S := fun w' => w'.cell? ⟨M, 1, none⟩ = some (.slice Ao c capo)) (by kernel_rfl) hS0 (fun hS => ?_)
              clear hS0
              refine wpAnyZ_take (i := 0) (v := ?va0) rfl (by kernel_rfl) (by kernel_rfl) (by kernel_rfl) (by kernel_rfl) (fun _ _ _ h => h) (Or.inl ⟨by rfl, ?ya0⟩) (by with_reducible assumption) ?ra0
              case ya0 => (intro w hSw; (try dsimp only at hSw); go_simp; (try with_reducible rfl))
              simp only [Act.put, List.setIfInBounds_toArray]
              refine wpAnyZ_take (i := 1) (v := ?va1) rfl (by kernel_rfl) (by kernel_rfl) (by kernel_rfl) (by kernel_rfl) (fun _ _ _ h => h) (Or.inl ⟨by rfl, ?ya1⟩) (by with_reducible assumption) ?ra1
              case ya1 => (intro w hSw; (try dsimp only at hSw); go_simp; (try with_reducible rfl))
              simp only [Act.put]
              refine wpAnyZ_take (i := 2) (v := ?va2) rfl (by kernel_rfl) (by kernel_rfl) (by kernel_rfl) (by kernel_rfl) (fun _ _ _ h => h) (Or.inl ⟨by rfl, ?ya2⟩) (by with_reducible assumption) ?ra2
              case ya2 => (intro w hSw; (try dsimp only at hSw); go_simp; (try with_reducible rfl))
              simp only [Act.put]
              refine wpAnyZ_take (i := 3) (v := ?va3) rfl (by kernel_rfl) (by kernel_rfl) (by kernel_rfl) (by kernel_rfl) (fun _ _ _ h => h) (Or.inl ⟨by rfl, ?ya3⟩) (by with_reducible assumption) ?ra3
              case ya3 => (intro w hSw; (try dsimp only at hSw); go_simp; (try with_reducible rfl))
              simp only [Act.put]
              refine wpAnyZ_take (i := 4) (v := ?va4) rfl (by kernel_rfl) (by kernel_rfl) (by kernel_rfl) (by kernel_rfl) (fun _ _ _ h => h) (Or.inl ⟨by rfl, ?ya4⟩) (by with_reducible assumption) ?ra4
              case ya4 => (intro w hSw; (try dsimp only at hSw); go_simp; (try with_reducible rfl))
              simp only [Act.put]
              (try simp only [Act.put])
              refine wpAnyZ_step (i := 5) (by kernel_rfl) rfl ?_
              intro K1 hK1
              go_simp
              refine (iByte_v (q[j]) v _ HV.out).mono ?_
              rintro e w4 ⟨rfl, rfl⟩
              refine hK1.out _ _ hS (fun hS1 => ?_)
              clear hK1 hS
              (try simp only [Act.put])
              refine wpAnyZ_step (i := 6) (by kernel_rfl) rfl ?_
              intro K2 hK2
              go_simp
              refine hK2.out _ _ (KS.out _ ((hm.out.drewN 1).alloc _)) (fun hS2 => ?_)
              clear hK2 hS1
              (try simp only [Act.put])
              refine wpAnyZ_step (i := 7) (by kernel_rfl) rfl ?_
              intro K3 hK3
              refine step_append_lies _ rfl _ _ 22 rfl w.heap.size 3 i0 (.int .i64 0) 1 8 Tryd.underlying22 ZI.out Z0.out Z1.out Z2.out rfl (by decide) _ c _ rfl ((own_dr hown.out 1).alloc (.cells #[.int .i64 v] 3)) ⟨wr.heap.size, 0, none⟩ 1 1 [.int .i64 v] rfl rfl (lit_cell wr 1 _ _) (by intro u hu; simp at hu; subst hu; rfl) (by decide) (by have := hcc.out; unfold maxLen; omega) (by have := hcc.out; omega) (by have h1 := hbw.out.size; simp; omega) _ rfl ?_
              intro g5 cap5 w5 hown' hgrow _ _
              have hMx : ∀ j, (Value.slice Ao c capo).ownBlock = some j → j ≠ M := fun j hj he => own_other hown.out hm.out (by decide) (by rw [hj, he])
              have hRx : ∀ j, (Value.slice Ao c capo).ownBlock = some j → j ≠ w.heap.size := fun j hj he => own_other hown.out hr.out (by decide) (by rw [hj, he])
              have hGx : ∀ j, (Value.slice Ao c capo).ownBlock = some j → j ≠ gS := fun j hj he => own_other hown.out (hg.out.trans HSB.out) (by decide) (by rw [hj, he])
              have M5 := Lib.hid (blk_g ((hm.out.drewN 1).alloc (.cells #[.int .i64 v] 3)) hgrow (fun he => hMx _ he.symm rfl))
              have R5 := Lib.hid (blk_g ((hr.out.drewN 1).alloc (.cells #[.int .i64 v] 3)) hgrow (fun he => hRx _ he.symm rfl))
              have G5 : Hid (w5.heap[gS]? = w1.heap[gS]?) := ((hgrow.block gS (Nat.lt_of_lt_of_le hgl (by simp)) (fun he => hGx _ he.symm rfl)).trans (Below.heap_alloc (wr.drewN 1) _ gS hgl)).trans hg.out
              have B5 := Lib.hid ((hbw.out.drew.alloc (by show w.heap.size ≤ wr.heap.size; exact hbw.out.size) (.cells #[.int .i64 v] 3)).grown hgrow (by have := hbw.out.size; simp; omega) (fun j hj => (hown.out.lt j hj).1))
              refine hK3.out _ _ (KS.out _ M5.out) (fun hS4 => ?_)
              clear hK3 hS2
              (try simp only [Act.put])
              refine wpAnyZ_take (i := 8) (v := ?vb8) rfl (by kernel_rfl) (by kernel_rfl) (by kernel_rfl) (by kernel_rfl) (fun _ _ _ h => h) (Or.inl ⟨by rfl, ?yb8⟩) (by with_reducible assumption) ?rb8
              case yb8 => (intro w hSw; (try dsimp only at hSw); go_simp; (try with_reducible rfl))
              simp only [Act.put]
              have hown6 := own_cast hown' rfl (show _ = ((us ++ [v]).map (Value.int .i64)) by rw [int_snoc])
              obtain ⟨m0, m1⟩ := two_cells M5.out
              obtain ⟨f0, f1⟩ := two_frozen M5.out
              have MW := Lib.hid (M5.out.set_ 1 (.slice (some ⟨g5, 0, none⟩) (c + 1) cap5))
              have RW := Lib.hid (R5.out.other M 1 (.slice (some ⟨g5, 0, none⟩) (c + 1) cap5) hMR)
              have GW : Hid ((w5.setCell ⟨M, 1, none⟩ (.slice (some ⟨g5, 0, none⟩) (c + 1) cap5)).heap[gS]? = w1.heap[gS]?) := (Below.heap_setCell w5 ⟨M, 1, none⟩ _ _ hMg).trans G5.out
              have BW := Lib.hid (B5.out.setCell (p := ⟨M, 1, none⟩) hMle (.slice (some ⟨g5, 0, none⟩) (c + 1) cap5))
              have OW := Lib.hid (g_own_set hown6 M5.out (by decide) 1 (.slice (some ⟨g5, 0, none⟩) (c + 1) cap5))
              have LW : Hid ((us ++ [v]).length = c + 1) := by show _ = _; have := hul.out; simp; omega
              have CW : Hid (c + 1 ≤ k * n + (j + 1)) := by show _ ≤ _; have := hcj.out; omega
              have EW : Hid (us ++ [v] = fnds (Q.take k) ++ (q.data.toList.take (j + 1)).map fnd) := by
                show _ = _
                rw [map_snoc q.data.toList (by simpa using hlj), hue.out, List.append_assoc, ← HV.out]
                rfl
              clear hown' hgrow hown6 hMx hRx hGx hS4 m0 m1
              refine wpAnyZ_last (i := 9) (by kernel_rfl) rfl (by kernel_rfl) ?_
              intro K5 hK5
              have m1 := M5.out.cell 1
              simp at m1
              go_simp
              refine hK5.out _ _ ?_
              clear hK5 m1 f0 f1
              go_wp2_with fail
              go_roundw
              case rel => exact ⟨j + 1, c + 1, some ⟨g5, 0, none⟩, cap5, us ++ [v], by omega, by go_num, LW.out, CW.out, EW.out, OW.out, BW.out, RW.out, MW.out, GW.out⟩
              case measure => simp [intOf]; omega
            · have hjq : j = q.size := by omega
              have HUE : Hid (us = fnds (Q.take (k + 1))) := by
                show _ = _
                rw [hue.out, fnds_snoc HD.out, List.take_of_length_le (l := q.data.toList) (i := j) (len_le (by omega))]
              have CN : Hid (c ≤ (k + 1) * n) := by show _ ≤ _; have := hcj.out; have := HQN.out; rw [Nat.succ_mul]; omega
              have LN : Hid (lensOk n (Q.take (k + 1)) = true) := lens_snoc HD.out hlo.out (by simpa using HQN.out)
              go_wp2_with fail
              go_roundw
              case rel => exact ⟨k + 1, c, Ao, capo, us, by omega, by go_num, hul.out, CN.out, HUE.out, LN.out, hown.out, hbw.out, hr.out, hm.out, hg.out⟩
              case measure => simp [intOf]; omega
        · have hqb : ((q.size : Int) != (n : Int)) = true := by rw [bne_iff_ne]; omega
          have HE := Lib.hid (parseG_len HCL.out (by rw [← HQ.out]; exact mem_of_drop HD.out) (show ¬ q.data.toList.length = n by simpa using hqn))
          obtain ⟨m0, m1⟩ := two_cells hm.out
          clear hqn
          obtain ⟨r0, r1⟩ := two_cells hr.out
          obtain ⟨rf0, rf1⟩ := two_frozen hr.out
          go_wp2_with fail
          have HF := (hr.out.set_ 0 (.int .i64 0)).set_ 1 (.slice none 0 0)
          have HB := Lib.hid (MEnd.none_ (w := w) HE.out ((hbw.out.setCell (p := ⟨w.heap.size, 0, none⟩) (Nat.le_refl _) (.int .i64 0)).setCell (p := ⟨w.heap.size, 1, none⟩) (Nat.le_refl _) (.slice none 0 0)))
          refine bodyPost_ret (results_2 rfl (gives_mat (g := w.heap.size) rfl HF) (Gives.tmp rfl)) rfl ?_
          exact HB.out
      · have hkn : k = n := by omega
        have HVQ : Hid (vs = fnds (cutL 47 s.data.toList)) := by show _ = _; rw [hve.out, HQ.out, List.take_of_length_le (by have := HCL.out; omega)]
        have HLO : Hid (lensOk n (cutL 47 s.data.toList) = true) := by have h := hlo.out; rw [HQ.out, List.take_of_length_le (by have := HCL.out; omega)] at h; exact h
        have hl1 : vs.length ≤ 1200000000000 := by have h1 := hvl.out; have h0 := hcb'.out; have h2 : k * n ≤ 1048577 * 1048577 := Nat.mul_le_mul (by omega) hn1; omega
        have hc0 := hvl.out
        subst hc0
        obtain ⟨_, _, he0, _, hi0⟩ := own_ints hown.out (by unfold maxLen; omega)
        cases he0
        have HI := Lib.hid hi0
        obtain ⟨m0, m1⟩ := two_cells hm.out
        clear hi0 hve hvl hcb'
        rcases Bool.eq_false_or_eq_true (gradeOk (n : Int) vs) with hok | hok
        · have HE := Lib.hid (parseG_ok HCL.out HVQ.out HLO.out hok)
          have HOK := Lib.hid hok
          have hl16 : vs.length ≤ 16 := by
            obtain ⟨n', _, gv⟩ := gradeOk_t hok
            rw [gv.len]; exact gv.mv.sq
          clear hok
          go_wp2_with fail
          refine (iGradesValid_is _ _ _ _ true _ HI.out HOK.out).mono ?_
          rintro e w3 ⟨rfl, hb3⟩
          have R3 := Lib.hid (blk_b hr.out hb3)
          have M3 := Lib.hid (blk_b hm.out hb3)
          have O3 := Lib.hid (own_under hown.out hb3)
          have B3 := Lib.hid (below_on hbw.out hb3)
          clear m0 m1 hb3
          obtain ⟨m0, m1⟩ := two_cells M3.out
          obtain ⟨r0, r1⟩ := two_cells R3.out
          obtain ⟨rf0, rf1⟩ := two_frozen R3.out
          go_wp2_with fail
          have HF := (R3.out.set_ 0 (.int .i64 n)).set_ 1 (.slice A0 vs.length cap0)
          have HB := Lib.hid (MEnd.some_ (w := w) (w' := (w3.setCell ⟨w.heap.size, 0, none⟩ (.int .i64 n)).setCell ⟨w.heap.size, 1, none⟩ (.slice A0 vs.length cap0)) HE.out ⟨_, rfl, (g_own_set (g_own_set O3.out R3.out (by decide) _ _) (R3.out.set_ 0 _) (by decide) _ _), by omega⟩ ((B3.out.setCell (p := ⟨w.heap.size, 0, none⟩) (Nat.le_refl _) (.int .i64 n)).setCell (p := ⟨w.heap.size, 1, none⟩) (Nat.le_refl _) (.slice A0 vs.length cap0)))
          refine bodyPost_ret (results_2 rfl (gives_mat (g := w.heap.size) rfl HF) (Gives.tmp rfl)) rfl ?_
          exact HB.out
        · have HE := Lib.hid (parseG_bad HCL.out HVQ.out hok)
          have HOK := Lib.hid hok
          clear hok
          go_wp2_with fail
          refine (iGradesValid_is _ _ _ _ false _ HI.out HOK.out).mono ?_
          rintro e w3 ⟨rfl, hb3⟩
          have R3 := Lib.hid (blk_b hr.out hb3)
          have B3 := Lib.hid (below_on hbw.out hb3)
          clear m0 m1 hb3
          obtain ⟨r0, r1⟩ := two_cells R3.out
          obtain ⟨rf0, rf1⟩ := two_frozen R3.out
          go_wp2_with fail
          have HF := (R3.out.set_ 0 (.int .i64 0)).set_ 1 (.slice none 0 0)
          have HB := Lib.hid (MEnd.none_ (w := w) HE.out ((B3.out.setCell (p := ⟨w.heap.size, 0, none⟩) (Nat.le_refl _) (.int .i64 0)).setCell (p := ⟨w.heap.size, 1, none⟩) (Nat.le_refl _) (.slice none 0 0)))
          refine bodyPost_ret (results_2 rfl (gives_mat (g := w.heap.size) rfl HF) (Gives.tmp rfl)) rfl ?_
          exact HB.out
  · refine (sizeValid_f _ _ (by omega)).mono ?_
    rintro e w' ⟨rfl, rfl⟩
    have HE := Lib.hid (parseG_big HCL.out h4)
    have R2 := Lib.hid (HR.out.alloc (.cells #[.int .i64 n, .slice none 0 0] 24))
    have B2 := Lib.hid (below_al HBA.out (Nat.le_refl _) (.cells #[.int .i64 n, .slice none 0 0] 24))
    obtain ⟨r0, r1⟩ := two_cells R2.out
    obtain ⟨rf0, rf1⟩ := two_frozen R2.out
    go_wp2_with fail
    have HF := (R2.out.set_ 0 (.int .i64 0)).set_ 1 (.slice none 0 0)
    have HB := Lib.hid (MEnd.none_ (w := w) HE.out ((B2.out.setCell (p := ⟨w.heap.size, 0, none⟩) (Nat.le_refl _) (.int .i64 0)).setCell (p := ⟨w.heap.size, 1, none⟩) (Nat.le_refl _) (.slice none 0 0)))
    refine bodyPost_ret (results_2 rfl (gives_mat (g := w.heap.size) rfl HF) (Gives.tmp rfl)) rfl ?_
    exact HB.out

theorem sParseG_any (s : ByteArray) (w : World) (hs : s.size ≤ 1048576) :
    Calls Tryd.prog 4 #[.string s] w fun e w' => MEnd (parseG s.data.toList) w e w' := by
  obtain ⟨i0, hi, hz0, hz1, hz2⟩ := info_parts info_int
  have Z0 := Lib.hid hz0
  have Z1 := Lib.hid hz1
  have Z2 := Lib.hid hz2
  have ZI := Lib.hid hi
  have hsz : s.data.toList.length = s.size := by simp
  have HSZ := Lib.hid hsz
  clear hz0 hz1 hz2 hi hsz
  go_enter Tryd.func4, Tryd.ntmps4
  go_wp2_with fail
  refine (cut_any s 47 47 rfl _ hs).mono ?_
  rintro e wa ⟨x0, ps, rfl, hps, hown, hb1, hfew⟩
  have hpos : 0 < ps.length := by
    have h1 : ps.length = (cutL 47 s.data.toList).length := by rw [← hps]; simp
    have h2 : ¬ (cutL 47 s.data.toList).length = 0 := fun h0 => cutL_ne 47 s.data.toList (List.eq_nil_of_length_eq_zero h0)
    omega
  obtain ⟨gS, cap, cur, rfl, hg, hblk, hcells⟩ := own_strs hown hpos
  have hcl : (cutL 47 s.data.toList).length = ps.length := by rw [← hps]; simp
  have hn1' : ps.length ≤ 1048577 := by have := pieces_few 47 s.data.toList; have := HSZ.out; omega
  obtain ⟨n, hn⟩ : ∃ n, n = ps.length := ⟨_, rfl⟩
  have HK := Lib.hid hblk
  have HP := Lib.hid hps
  have HN := Lib.hid hn
  have HCL := Lib.hid (hcl.trans hn.symm)
  obtain ⟨Q, hQ⟩ : ∃ Q, Q = cutL 47 s.data.toList := ⟨_, rfl⟩
  have HQ := Lib.hid hQ
  have hn1 : n ≤ 1048577 := by omega
  have hn0 : 1 ≤ n := by omega
  have HBA := Lib.hid (below_on (below_a1 w (.cells #[.int .i64 0, .slice none 0 0] 24)) hb1)
  have HR := Lib.hid (blk_b (Blk.new w 24 #[.int .i64 0, .slice none 0 0]) hb1)
  have hgw : gS < wa.heap.size := Blk.lt (show Blk wa gS _ _ from hblk)
  rw [← hn]
  clear hps hown hb1 hfew hpos hcl hn1' hn hQ hblk
  go_wp2_with fail
  obtain ⟨B0, hB0⟩ : ∃ B0, B0 = wa.heap.size := ⟨_, rfl⟩
  obtain ⟨M, hM⟩ : ∃ M, M = B0 + 1 := ⟨_, rfl⟩
  obtain ⟨w1, hw1⟩ : ∃ w1, w1 = (wa.alloc (.cells #[] 3)).alloc (.cells #[.int .i64 n, .slice (some ⟨wa.heap.size, 0, none⟩) 0 0] 24) := ⟨_, rfl⟩
  have M2 : Hid (Blk w1 M 24 #[.int .i64 n, .slice (some ⟨B0, 0, none⟩) 0 0]) := by rw [hw1, hM, hB0]; exact blk_new (by simp)
  have R2 : Hid (Blk w1 w.heap.size 24 #[.int .i64 0, .slice none 0 0]) := by rw [hw1]; exact (HR.out.alloc _).alloc _
  have B2 : Hid (Below w.heap.size w w1) := by rw [hw1]; exact below_al (below_al HBA.out (Nat.le_refl _) _) (Nat.le_refl _) _
  have HSB : Hid (w1.heap[gS]? = some (.cells cur 9 (0, 0))) := by rw [hw1]; exact ((show Blk wa gS 9 cur from HK.out).alloc _).alloc _
  have O2 : Hid (w1.ownsRow w.heap.size 3 1 (.slice (some ⟨B0, 0, none⟩) 0 0) 0 []) := by
    have h := World.ownsRow_lit (e := 3) (size := 1) wa #[] 0 (Nat.le_refl _) (Nat.zero_le _) rfl
    rw [hw1, hB0]
    exact own_base (h.alloc _) HBA.out.size
  have G2 : Hid (w1.heap[gS]? = w1.heap[gS]?) := rfl
  have hMg : ¬ gS = M := by omega
  have hMle : w.heap.size ≤ M := by have := HBA.out.size; omega
  have hMR : ¬ M = w.heap.size := by have := HBA.out.size; omega
  have HC : Hid (∀ k (hk : k < ps.length), w1.cell? ⟨gS, k, none⟩ = some (.string ps[k])) := fun k hk => by
    have h1 : wa.cell? ⟨gS, k, none⟩ = some (.string ps[k]) := hcells k (by omega)
    rw [cell_of_row wa gS k _ _ (0, 0) HK.out] at h1
    rw [cell_of_row w1 gS k _ _ (0, 0) HSB.out]
    exact h1
  rw [← hB0] at hw1 ⊢
  rw [← hw1, ← hM]
  clear hB0 hM hw1 HR HBA HK hcells hgw
  go_loopw [17] (fun i wr => ∃ (k c0 : Nat) (A0 : Option Addr) (cap0 : Nat) (vs : List Int), k ≤ n ∧ i = .int .i64 k ∧ Hid (vs.length = c0) ∧ Hid (c0 ≤ k * n) ∧ Hid (vs = fnds (Q.take k)) ∧ Hid (lensOk n (Q.take k) = true) ∧ Hid (wr.ownsRow w.heap.size 3 1 (.slice A0 c0 cap0) c0 (vs.map (Value.int .i64))) ∧ Hid (Below w.heap.size w wr) ∧ Hid (Blk wr w.heap.size 24 #[.int .i64 0, .slice none 0 0]) ∧ Hid (Blk wr M 24 #[.int .i64 n, .slice A0 c0 cap0]) ∧ Hid (wr.heap[gS]? = w1.heap[gS]?)) (fun i _ => n - (intOf i).toNat)
  case atStart => exact ⟨0, 0, _, 0, [], Nat.zero_le _, rfl, rfl, Nat.zero_le _, rfl, rfl, O2.out, B2.out, R2.out, M2.out, rfl⟩
  case round =>
    obtain ⟨k, c0, A0, cap0, vs, hk, rfl, hvl, hcb', hve, hlo, hown, hbw, hr, hm, hg⟩ := hrel
    by_cases hlt : k < n
    · have hlt' : k < ps.length := by rw [← HN.out]; exact hlt
      obtain ⟨hd, hpsz⟩ := piece_at HP.out hlt'
      have hcq := HC.out k hlt'
      obtain ⟨q, hqe⟩ : ∃ q, q = ps[k] := ⟨_, rfl⟩
      rw [← hqe] at hcq hd hpsz
      have hq : q.size ≤ 1048576 := by have := HSZ.out; omega
      have hc : wr.cell? ⟨gS, k, none⟩ = some (.string q) := (World.cell?_of_block (a := ⟨gS, k, none⟩) hg.out).trans hcq
      rw [← HQ.out] at hd
      have HD := Lib.hid hd
      have HCQ := Lib.hid hcq
      have hcb : Hid (c0 ≤ k * n + 0) := hcb'.out
      have i2 : (0 : Int) ≤ (k : Int) := by omega
      have i3 : (k : Int) < (n : Int) := by omega
      clear hd hqe hpsz hcq hcb'
      go_wp2_with fail
      go_loopw [23] (fun i wr => ∃ (j c : Nat) (Ao : Option Addr) (capo : Nat) (us : List Int), j ≤ q.size ∧ i = .int .i64 j ∧ Hid (us.length = c) ∧ Hid (c ≤ k * n + j) ∧ Hid (us = fnds (Q.take k) ++ (q.data.toList.take j).map fnd) ∧ Hid (wr.ownsRow w.heap.size 3 1 (.slice Ao c capo) c (us.map (Value.int .i64))) ∧ Hid (Below w.heap.size w wr) ∧ Hid (Blk wr w.heap.size 24 #[.int .i64 0, .slice none 0 0]) ∧ Hid (Blk wr M 24 #[.int .i64 n, .slice Ao c capo]) ∧ Hid (wr.heap[gS]? = w1.heap[gS]?)) (fun i _ => q.size - (intOf i).toNat)
      case atStart => exact ⟨0, c0, A0, cap0, vs, Nat.zero_le _, rfl, hvl.out, hcb.out, (by rw [List.take_zero, List.map_nil, List.append_nil]; exact hve.out), hown.out, hbw.out, hr.out, hm.out, hg.out⟩
      case round =>
        clear hvl hcb hve hown hbw hr hm hg
        obtain ⟨j, c, Ao, capo, us, hj, rfl, hul, hcj, hue, hown, hbw, hr, hm, hg⟩ := hrel
        by_cases hlj : j < q.size
        · have hcc : Hid (c ≤ 1200000000000) := by show c ≤ _; have h1 := hcj.out; have h2 : k * n ≤ 1048577 * 1048577 := Nat.mul_le_mul (by omega) hn1; omega
          obtain ⟨v, hv⟩ : ∃ v, fnd (q[j]) = v := ⟨_, rfl⟩
          have HV := Lib.hid hv
          have KS : Hid (∀ w', Blk w' M 24 #[.int .i64 n, .slice Ao c capo] → w'.cell? ⟨M, 1, none⟩ = some (.slice Ao c capo)) := fun w' h => h.cell 1
          have hgl : gS < (wr.drewN 1).heap.size := by
            have h1 : wr.cell? ⟨gS, k, none⟩ = some (.string q) := (World.cell?_of_block (a := ⟨gS, k, none⟩) hg.out).trans HCQ.out
            exact lt_of_cell? h1
          have i0' : (0 : Int) ≤ (j : Int) := by omega
          have i1 : (j : Int) < (q.size : Int) := by omega
          have hS0 := KS.out wr.drew hm.out
          clear hv
          go_wp2_with fail
          refine wp_region_Z (S := fun w' => w'.cell? ⟨M, 1, none⟩ = some (.slice Ao c capo)) (by kernel_rfl) hS0 (fun hS => ?_)
          clear hS0
          refine wpAnyZ_take (i := 0) (v := ?va0) rfl (by kernel_rfl) (by kernel_rfl) (by kernel_rfl) (by kernel_rfl) (fun _ _ _ h => h) (Or.inl ⟨by rfl, ?ya0⟩) (by with_reducible assumption) ?ra0
          case ya0 => (intro w hSw; (try dsimp only at hSw); go_simp; (try with_reducible rfl))
          simp only [Act.put, List.setIfInBounds_toArray]
          refine wpAnyZ_take (i := 1) (v := ?va1) rfl (by kernel_rfl) (by kernel_rfl) (by kernel_rfl) (by kernel_rfl) (fun _ _ _ h => h) (Or.inl ⟨by rfl, ?ya1⟩) (by with_reducible assumption) ?ra1
          case ya1 => (intro w hSw; (try dsimp only at hSw); go_simp; (try with_reducible rfl))
          simp only [Act.put]
          refine wpAnyZ_take (i := 2) (v := ?va2) rfl (by kernel_rfl) (by kernel_rfl) (by kernel_rfl) (by kernel_rfl) (fun _ _ _ h => h) (Or.inl ⟨by rfl, ?ya2⟩) (by with_reducible assumption) ?ra2
          case ya2 => (intro w hSw; (try dsimp only at hSw); go_simp; (try with_reducible rfl))
          simp only [Act.put]
          refine wpAnyZ_take (i := 3) (v := ?va3) rfl (by kernel_rfl) (by kernel_rfl) (by kernel_rfl) (by kernel_rfl) (fun _ _ _ h => h) (Or.inl ⟨by rfl, ?ya3⟩) (by with_reducible assumption) ?ra3
          case ya3 => (intro w hSw; (try dsimp only at hSw); go_simp; (try with_reducible rfl))
          simp only [Act.put]
          refine wpAnyZ_take (i := 4) (v := ?va4) rfl (by kernel_rfl) (by kernel_rfl) (by kernel_rfl) (by kernel_rfl) (fun _ _ _ h => h) (Or.inl ⟨by rfl, ?ya4⟩) (by with_reducible assumption) ?ra4
          case ya4 => (intro w hSw; (try dsimp only at hSw); go_simp; (try with_reducible rfl))
          simp only [Act.put]
          (try simp only [Act.put])
          refine wpAnyZ_step (i := 5) (by kernel_rfl) rfl ?_
          intro K1 hK1
          go_simp
          refine (sFind_v (q[j]) v _ HV.out).mono ?_
          rintro e w4 ⟨rfl, rfl⟩
          refine hK1.out _ _ hS (fun hS1 => ?_)
          clear hK1 hS
          (try simp only [Act.put])
          refine wpAnyZ_step (i := 6) (by kernel_rfl) rfl ?_
          intro K2 hK2
          go_simp
          refine hK2.out _ _ (KS.out _ ((hm.out.drewN 1).alloc _)) (fun hS2 => ?_)
          clear hK2 hS1
          (try simp only [Act.put])
          refine wpAnyZ_step (i := 7) (by kernel_rfl) rfl ?_
          intro K3 hK3
          refine step_append_lies _ rfl _ _ 22 rfl w.heap.size 3 i0 (.int .i64 0) 1 8 Tryd.underlying22 ZI.out Z0.out Z1.out Z2.out rfl (by decide) _ c _ rfl ((own_dr hown.out 1).alloc (.cells #[.int .i64 v] 3)) ⟨wr.heap.size, 0, none⟩ 1 1 [.int .i64 v] rfl rfl (lit_cell wr 1 _ _) (by intro u hu; simp at hu; subst hu; rfl) (by decide) (by have := hcc.out; unfold maxLen; omega) (by have := hcc.out; omega) (by have h1 := hbw.out.size; simp; omega) _ rfl ?_
          intro g5 cap5 w5 hown' hgrow _ _
          have hMx : ∀ j, (Value.slice Ao c capo).ownBlock = some j → j ≠ M := fun j hj he => own_other hown.out hm.out (by decide) (by rw [hj, he])
          have hRx : ∀ j, (Value.slice Ao c capo).ownBlock = some j → j ≠ w.heap.size := fun j hj he => own_other hown.out hr.out (by decide) (by rw [hj, he])
          have hGx : ∀ j, (Value.slice Ao c capo).ownBlock = some j → j ≠ gS := fun j hj he => own_other hown.out (hg.out.trans HSB.out) (by decide) (by rw [hj, he])
          have M5 := Lib.hid (blk_g ((hm.out.drewN 1).alloc (.cells #[.int .i64 v] 3)) hgrow (fun he => hMx _ he.symm rfl))
          have R5 := Lib.hid (blk_g ((hr.out.drewN 1).alloc (.cells #[.int .i64 v] 3)) hgrow (fun he => hRx _ he.symm rfl))
          have G5 : Hid (w5.heap[gS]? = w1.heap[gS]?) := ((hgrow.block gS (Nat.lt_of_lt_of_le hgl (by simp)) (fun he => hGx _ he.symm rfl)).trans (Below.heap_alloc (wr.drewN 1) _ gS hgl)).trans hg.out
          have B5 := Lib.hid ((hbw.out.drew.alloc (by show w.heap.size ≤ wr.heap.size; exact hbw.out.size) (.cells #[.int .i64 v] 3)).grown hgrow (by have := hbw.out.size; simp; omega) (fun j hj => (hown.out.lt j hj).1))
          refine hK3.out _ _ (KS.out _ M5.out) (fun hS4 => ?_)
          clear hK3 hS2
          (try simp only [Act.put])
          refine wpAnyZ_take (i := 8) (v := ?vb8) rfl (by kernel_rfl) (by kernel_rfl) (by kernel_rfl) (by kernel_rfl) (fun _ _ _ h => h) (Or.inl ⟨by rfl, ?yb8⟩) (by with_reducible assumption) ?rb8
          case yb8 => (intro w hSw; (try dsimp only at hSw); go_simp; (try with_reducible rfl))
          simp only [Act.put]
          have hown6 := own_cast hown' rfl (show _ = ((us ++ [v]).map (Value.int .i64)) by rw [int_snoc])
          obtain ⟨m0, m1⟩ := two_cells M5.out
          obtain ⟨f0, f1⟩ := two_frozen M5.out
          have MW := Lib.hid (M5.out.set_ 1 (.slice (some ⟨g5, 0, none⟩) (c + 1) cap5))
          have RW := Lib.hid (R5.out.other M 1 (.slice (some ⟨g5, 0, none⟩) (c + 1) cap5) hMR)
          have GW : Hid ((w5.setCell ⟨M, 1, none⟩ (.slice (some ⟨g5, 0, none⟩) (c + 1) cap5)).heap[gS]? = w1.heap[gS]?) := (Below.heap_setCell w5 ⟨M, 1, none⟩ _ _ hMg).trans G5.out
          have BW := Lib.hid (B5.out.setCell (p := ⟨M, 1, none⟩) hMle (.slice (some ⟨g5, 0, none⟩) (c + 1) cap5))
          have OW := Lib.hid (g_own_set hown6 M5.out (by decide) 1 (.slice (some ⟨g5, 0, none⟩) (c + 1) cap5))
          have LW : Hid ((us ++ [v]).length = c + 1) := by show _ = _; have := hul.out; simp; omega
          have CW : Hid (c + 1 ≤ k * n + (j + 1)) := by show _ ≤ _; have := hcj.out; omega
          have EW : Hid (us ++ [v] = fnds (Q.take k) ++ (q.data.toList.take (j + 1)).map fnd) := by
            show _ = _
            rw [map_snoc q.data.toList (by simpa using hlj), hue.out, List.append_assoc, ← HV.out]
            rfl
          clear hown' hgrow hown6 hMx hRx hGx hS4 m0 m1
          refine wpAnyZ_last (i := 9) (by kernel_rfl) rfl (by kernel_rfl) ?_
          intro K5 hK5
          have m1 := M5.out.cell 1
          simp at m1
          go_simp
          refine hK5.out _ _ ?_
          clear hK5 m1 f0 f1
          go_wp2_with fail
          go_roundw
          case rel => exact ⟨j + 1, c + 1, some ⟨g5, 0, none⟩, cap5, us ++ [v], by omega, by go_num, LW.out, CW.out, EW.out, OW.out, BW.out, RW.out, MW.out, GW.out⟩
          case measure => simp [intOf]; omega
        · have hjq : j = q.size := by omega
          have HUE : Hid (us = fnds (Q.take (k + 1))) := by
            show _ = _
            rw [hue.out, fnds_snoc HD.out, List.take_of_length_le (l := q.data.toList) (i := j) (len_le (by omega))]
          by_cases hqn : q.size = n
          · have hqb : ((q.size : Int) != (n : Int)) = false := by rw [bne_eq_false_iff_eq]; omega
            have HQN := Lib.hid hqn
            have CN : Hid (c ≤ (k + 1) * n) := by show _ ≤ _; have := hcj.out; have := HQN.out; rw [Nat.succ_mul]; omega
            have LN : Hid (lensOk n (Q.take (k + 1)) = true) := lens_snoc HD.out hlo.out (by simpa using HQN.out)
            clear hqn
            go_wp2_with fail
            go_roundw
            case rel => exact ⟨k + 1, c, Ao, capo, us, by omega, by go_num, hul.out, CN.out, HUE.out, LN.out, hown.out, hbw.out, hr.out, hm.out, hg.out⟩
            case measure => simp [intOf]; omega
          · have hqb : ((q.size : Int) != (n : Int)) = true := by rw [bne_iff_ne]; omega
            have HE := Lib.hid (parseG_len HCL.out (by rw [← HQ.out]; exact mem_of_drop HD.out) (show ¬ q.data.toList.length = n by simpa using hqn))
            clear hqn
            obtain ⟨r0, r1⟩ := two_cells hr.out
            obtain ⟨rf0, rf1⟩ := two_frozen hr.out
            go_wp2_with fail
            have HF := (hr.out.set_ 0 (.int .i64 0)).set_ 1 (.slice none 0 0)
            have HB := Lib.hid (MEnd.none_ (w := w) HE.out ((hbw.out.setCell (p := ⟨w.heap.size, 0, none⟩) (Nat.le_refl _) (.int .i64 0)).setCell (p := ⟨w.heap.size, 1, none⟩) (Nat.le_refl _) (.slice none 0 0)))
            refine bodyPost_ret (results_2 rfl (gives_mat (g := w.heap.size) rfl HF) (Gives.tmp rfl)) rfl ?_
            exact HB.out
    · have hkn : k = n := by omega
      have HVQ : Hid (vs = fnds (cutL 47 s.data.toList)) := by show _ = _; rw [hve.out, HQ.out, List.take_of_length_le (by have := HCL.out; omega)]
      have HLO : Hid (lensOk n (cutL 47 s.data.toList) = true) := by have h := hlo.out; rw [HQ.out, List.take_of_length_le (by have := HCL.out; omega)] at h; exact h
      have hl1 : vs.length ≤ 1200000000000 := by have h1 := hvl.out; have h0 := hcb'.out; have h2 : k * n ≤ 1048577 * 1048577 := Nat.mul_le_mul (by omega) hn1; omega
      have hc0 := hvl.out
      subst hc0
      obtain ⟨_, _, he0, _, hi0⟩ := own_ints hown.out (by unfold maxLen; omega)
      cases he0
      have HI := Lib.hid hi0
      obtain ⟨m0, m1⟩ := two_cells hm.out
      clear hi0 hve hvl hcb'
      rcases Bool.eq_false_or_eq_true (gradeOk (n : Int) vs) with hok | hok
      · have HE := Lib.hid (parseG_ok HCL.out HVQ.out HLO.out hok)
        have HOK := Lib.hid hok
        have hl16 : vs.length ≤ 16 := by
          obtain ⟨n', _, gv⟩ := gradeOk_t hok
          rw [gv.len]; exact gv.mv.sq
        clear hok
        go_wp2_with fail
        refine (sGradesValid_is _ _ _ _ true _ HI.out HOK.out).mono ?_
        rintro e w3 ⟨rfl, hb3⟩
        have R3 := Lib.hid (blk_b hr.out hb3)
        have M3 := Lib.hid (blk_b hm.out hb3)
        have O3 := Lib.hid (own_under hown.out hb3)
        have B3 := Lib.hid (below_on hbw.out hb3)
        clear m0 m1 hb3
        obtain ⟨m0, m1⟩ := two_cells M3.out
        obtain ⟨r0, r1⟩ := two_cells R3.out
        obtain ⟨rf0, rf1⟩ := two_frozen R3.out
        go_wp2_with fail
        have HF := (R3.out.set_ 0 (.int .i64 n)).set_ 1 (.slice A0 vs.length cap0)
        have HB := Lib.hid (MEnd.some_ (w := w) (w' := (w3.setCell ⟨w.heap.size, 0, none⟩ (.int .i64 n)).setCell ⟨w.heap.size, 1, none⟩ (.slice A0 vs.length cap0)) HE.out ⟨_, rfl, (g_own_set (g_own_set O3.out R3.out (by decide) _ _) (R3.out.set_ 0 _) (by decide) _ _), by omega⟩ ((B3.out.setCell (p := ⟨w.heap.size, 0, none⟩) (Nat.le_refl _) (.int .i64 n)).setCell (p := ⟨w.heap.size, 1, none⟩) (Nat.le_refl _) (.slice A0 vs.length cap0)))
        refine bodyPost_ret (results_2 rfl (gives_mat (g := w.heap.size) rfl HF) (Gives.tmp rfl)) rfl ?_
        exact HB.out
      · have HE := Lib.hid (parseG_bad HCL.out HVQ.out hok)
        have HOK := Lib.hid hok
        clear hok
        go_wp2_with fail
        refine (sGradesValid_is _ _ _ _ false _ HI.out HOK.out).mono ?_
        rintro e w3 ⟨rfl, hb3⟩
        have R3 := Lib.hid (blk_b hr.out hb3)
        have B3 := Lib.hid (below_on hbw.out hb3)
        clear m0 m1 hb3
        obtain ⟨r0, r1⟩ := two_cells R3.out
        obtain ⟨rf0, rf1⟩ := two_frozen R3.out
        go_wp2_with fail
        have HF := (R3.out.set_ 0 (.int .i64 0)).set_ 1 (.slice none 0 0)
        have HB := Lib.hid (MEnd.none_ (w := w) HE.out ((B3.out.setCell (p := ⟨w.heap.size, 0, none⟩) (Nat.le_refl _) (.int .i64 0)).setCell (p := ⟨w.heap.size, 1, none⟩) (Nat.le_refl _) (.slice none 0 0)))
        refine bodyPost_ret (results_2 rfl (gives_mat (g := w.heap.size) rfl HF) (Gives.tmp rfl)) rfl ?_
        exact HB.out

end Go.Proofs.YtmdddjiegjcekaaDoor
