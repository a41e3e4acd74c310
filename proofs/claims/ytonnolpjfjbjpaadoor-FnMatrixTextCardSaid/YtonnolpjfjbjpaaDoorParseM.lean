/- ParseMatrix, the program's: what the text reads as, in new memory; nothing that was there changes. Conditions: at most 2^20 bytes; the library's limit of short texts reads as some number. ParseMatrix, the model's: what the text reads as, in new memory; nothing that was there changes. Condition: at most 2^20 bytes. -/
import Derived.Test.YtonnolpjfjbjpaaDoorFmtM
import Derived.Test.YtonnolpjfjbjpaaDoorParsesLaw
namespace Go.Proofs.YtonnolpjfjbjpaaDoor
open Go.RowKit
set_option maxHeartbeats 1000000
set_option maxRecDepth 100000
set_option linter.unusedVariables false

theorem pM_step {n k : Nat} {Q : List (List UInt8)} {vs us : List Int} {p : List UInt8} {r : Option (List Int)} (h : r = (pM n (Q.drop k)).map (vs ++ ·)) (hd : Q.drop k = p :: Q.drop (k + 1)) (hp : parsesF p = some us) (hn : us.length = n) : r = (pM n (Q.drop (k + 1))).map ((vs ++ us) ++ ·) := by
  rw [h, hd, pM_good _ hp hn, Option.map_map]
  congr 1
  funext u
  simp
theorem pM_stop {n k : Nat} {Q : List (List UInt8)} {vs : List Int} {p : List UInt8} {r : Option (List Int)} (h : r = (pM n (Q.drop k)).map (vs ++ ·)) (hd : Q.drop k = p :: Q.drop (k + 1)) (hp : parsesF p = none) : r = none := by
  rw [h, hd, pM_bad _ hp]; rfl
theorem pM_stop_len {n k : Nat} {Q : List (List UInt8)} {vs us : List Int} {p : List UInt8} {r : Option (List Int)} (h : r = (pM n (Q.drop k)).map (vs ++ ·)) (hd : Q.drop k = p :: Q.drop (k + 1)) (hp : parsesF p = some us) (hn : ¬ us.length = n) : r = none := by
  rw [h, hd, pM_len_ _ hp hn]; rfl
theorem pM_done {n k : Nat} {Q : List (List UInt8)} {vs : List Int} {r : Option (List Int)} (h : r = (pM n (Q.drop k)).map (vs ++ ·)) (hk : Q.length ≤ k) : r = some vs := by
  rw [h, List.drop_of_length_le hk]; simp [pM]
theorem parseM_some {l : List UInt8} {n : Nat} {vs : List Int} (hn : (cutL 47 l).length = n) (h4 : n ≤ 4) (h : pM n (cutL 47 l) = some vs) : parseM l = some ((n : Int), vs) := by unfold parseM; rw [hn, if_pos h4, h]; rfl
theorem parseM_none {l : List UInt8} {n : Nat} (hn : (cutL 47 l).length = n) (h : pM n (cutL 47 l) = none) : parseM l = none := by unfold parseM; rw [hn, h]; simp
theorem parseM_many {l : List UInt8} {n : Nat} (hn : (cutL 47 l).length = n) (h4 : ¬ n ≤ 4) : parseM l = none := by unfold parseM; rw [hn, if_neg h4]
theorem split_strokes (s : ByteArray) : (Lib.splitB ⟨#[47]⟩ 0 (Lib.countB s ⟨#[47]⟩) s).map (·.data.toList) = cutL 47 s.data.toList := by
  rw [Lib.splitB_data]
  exact split_cut 47 s.data.toList
theorem ints_snoc (vs us : List Int) : vs.map (Value.int .i64) ++ us.map (Value.int .i64) = (vs ++ us).map (Value.int .i64) := by simp
theorem own_src {w : World} {base cap : Nat} {A : Option Addr} {us : List Int} (h : w.ownsRow base 3 1 (.slice A us.length cap) us.length (us.map (Value.int .i64))) (hn : 1 ≤ us.length) :
    ∃ g, A = some ⟨g, 0, none⟩ ∧ ∀ (j : Nat) u, (us.map (Value.int .i64))[j]? = some u → w.cell? ((⟨g, 0, none⟩ : Addr).add j) = some u := by
  rcases h.2 with ⟨_, hx⟩ | ⟨g, c, cur, hv, hb, hg, hnc, hcm, hcs, htake⟩
  · omega
  · cases hv
    refine ⟨g, rfl, fun j u hj => ?_⟩
    have e : (⟨g, 0, none⟩ : Addr).add j = ⟨g, j, none⟩ := by by_cases h0 : j = 0 <;> simp [Addr.add, h0]
    have hjl : j < us.length := by
      rcases Nat.lt_or_ge j us.length with h | h
      · exact h
      · rw [List.getElem?_eq_none (by simpa using h)] at hj; cases hj
    rw [e, h.cellAt j (by omega), hj]

theorem own_set_any {w : World} {base n k : Nat} {t t' : TypeId} {x : Value} {xs : List Value} {cs : Array Value} (ho : w.ownsRow base t 1 x n xs) (hk : Blk w k t' cs) (hne : t ≠ t') (i : Nat) (v : Value) : (w.setCell ⟨k, i, none⟩ v).ownsRow base t 1 x n xs := by
  refine ho.kept (grow_set w k i v) ?_
  have := own_other ho hk hne
  rcases h0 : x.ownBlock with _ | j
  · exact Or.inl rfl
  · right; intro he; exact this (by rw [h0]; exact he.symm)

/-- ParseCosts at a text that reads, and at one that doesn't. -/
theorem iP_some (s : ByteArray) (w : World) (hs : s.size ≤ 1048576) (hm : MaxC w) (us : List Int) (h : parsesF s.data.toList = some us) :
    Calls Tryd.prog 23 #[.string s] w fun e w' => ∃ A cap, e = .returned (.tuple #[.slice A us.length cap, .bool true]) ∧ Hid (w'.ownsRow w.heap.size 3 1 (.slice A us.length cap) us.length (us.map (Value.int .i64))) ∧ us.length ≤ 1048577 ∧ Hid (Below w.heap.size w w') := by
  have h0 := iParses_any s w hs hm
  rw [h] at h0
  refine h0.mono ?_
  rintro e w' ⟨y, rfl, h2, h3, h4⟩
  obtain ⟨A, cap, rfl, _, _⟩ := own_ints h2 (by simp at h4; unfold maxLen; simp; omega)
  exact ⟨A, cap, rfl, h2, h4, h3⟩
theorem iP_none (s : ByteArray) (w : World) (hs : s.size ≤ 1048576) (hm : MaxC w) (h : parsesF s.data.toList = none) :
    Calls Tryd.prog 23 #[.string s] w fun e w' => ∃ y, e = .returned (.tuple #[y, .bool false]) ∧ Hid (Below w.heap.size w w') := by
  have h0 := iParses_any s w hs hm
  rw [h] at h0
  refine h0.mono ?_
  rintro e w' ⟨y, rfl, h2, h3, h4⟩
  exact ⟨y, rfl, h3⟩

theorem iParseM_any (s : ByteArray) (w : World) (hs : s.size ≤ 1048576) (hmax : MaxC w) :
    Calls Tryd.prog 6 #[.string s] w fun e w' => MEnd (parseM s.data.toList) w e w' := by
  obtain ⟨i0, hi, hz0, hz1, hz2⟩ := info_parts info_int
  have HMX := Lib.hid hmax
  have hmlt := hmax.lt
  obtain ⟨mx, hmx⟩ := hmax
  have hsz : s.data.toList.length = s.size := by simp
  obtain ⟨ps, hps⟩ : ∃ ps, ps = Lib.splitB ⟨#[47]⟩ 0 (Lib.countB s ⟨#[47]⟩) s := ⟨_, rfl⟩
  have hlen : ps.length = Lib.countB s ⟨#[47]⟩ + 1 := by rw [hps]; exact Lib.splitB_all _ (by decide) 0 _ s rfl
  have hmap : ps.map (·.data.toList) = cutL 47 s.data.toList := by rw [hps]; exact split_strokes s
  have hcl : (cutL 47 s.data.toList).length = ps.length := by rw [← hmap]; simp
  have hfew : ps.length ≤ 1048577 := by have := pieces_few 47 s.data.toList; omega
  obtain ⟨n, hn⟩ : ∃ n, n = ps.length := ⟨_, rfl⟩
  have hsp := Tryd.strings_Split s ⟨#[47]⟩ mx (w.alloc (.cells #[.int .i64 0, .slice none 0 0] 25)) (by omega) (((below_a1 w (.cells #[.int .i64 0, .slice none 0 0] 25)).cell (p := ⟨0, 0, none⟩) hmlt).trans hmx) (by decide)
  rw [← hps, ← hlen, ← hn] at hsp
  have HSP := Lib.hid hsp
  have HP := Lib.hid hmap
  have HN := Lib.hid hn
  have HCL := Lib.hid (hcl.trans hn.symm)
  have HSZ := Lib.hid hsz
  have hn1 : n ≤ 1048577 := by omega
  have hn0 : 1 ≤ n := by omega
  have Z0 := Lib.hid hz0
  have Z1 := Lib.hid hz1
  have Z2 := Lib.hid hz2
  have ZI := Lib.hid hi
  clear hps hlen hmap hcl hfew hsp hn hsz hz0 hz1 hz2 hi hmx
  go_enter Tryd.func6, Tryd.ntmps6
  go_wp2_with fail
  refine HSP.out.mono ?_
  rintro e w1' ⟨rfl, hw1⟩
  obtain ⟨w1, hw1e⟩ : ∃ w1, w1 = w1' := ⟨_, rfl⟩
  have hblk : w1.heap[w.heap.size + 1]? = some (.cells (ps.map Value.string).toArray 9 (0, 0)) := by rw [hw1e, hw1]; have := heap_alloc_new (w.alloc (.cells #[.int .i64 0, .slice none 0 0] 25)) (.cells (ps.map Value.string).toArray 9 (0, 0)); simpa using this
  have hbA : Below w.heap.size w w1 := by rw [hw1e, hw1]; exact below_a2 _ _ _
  have hR : Blk w1 w.heap.size 25 #[.int .i64 0, .slice none 0 0] := by rw [hw1e, hw1]; exact (Blk.new _ _ _).alloc _
  have hsz1 : w1.heap.size = w.heap.size + 2 := by rw [hw1e, hw1]; simp
  rw [← hw1e]
  have HBLK := Lib.hid hblk
  have HBA := Lib.hid hbA
  have HR := Lib.hid hR
  have HS1 := Lib.hid hsz1
  clear hw1 hw1e hblk hbA hR hsz1
  go_wp2_with fail
  by_cases h4 : n ≤ 4
  · refine (sizeValid_t _ _ (by omega) (by omega)).mono ?_
    rintro e w' ⟨rfl, rfl⟩
    have M2 := Lib.hid (Blk.new w1 25 #[.int .i64 n, .slice none 0 0])
    have R2 := Lib.hid (HR.out.alloc (.cells #[.int .i64 n, .slice none 0 0] 25))
    have B2 := Lib.hid (below_al HBA.out (Nat.le_refl _) (.cells #[.int .i64 n, .slice none 0 0] 25))
    have G2 : Hid ((w1.alloc (.cells #[.int .i64 n, .slice none 0 0] 25)).heap[w.heap.size + 1]? = some (.cells (ps.map Value.string).toArray 9 (0, 0))) := (Below.heap_alloc _ _ _ (by have := HS1.out; omega)).trans HBLK.out
    have O2 : Hid ((w1.alloc (.cells #[.int .i64 n, .slice none 0 0] 25)).ownsRow w.heap.size 3 1 (.slice none 0 0) 0 []) := World.ownsRow_nil _ _ _ _
    obtain ⟨M, hM⟩ : ∃ M, M = w1.heap.size := ⟨_, rfl⟩
    rw [← hM] at M2 ⊢
    have hMw : w.heap.size + 1 < M := by have := HS1.out; omega
    have hMg : ¬ w.heap.size + 1 = M := by omega
    have hMle : w.heap.size ≤ M := by omega
    clear hM HBLK HR HBA HSP HS1
    go_wp2_with fail
    go_loopw [22] (fun i wr => ∃ (k : Nat) (x : Value) (vs : List Int), k ≤ n ∧ i = .int .i64 k ∧ Hid (wr.ownsRow w.heap.size 3 1 x vs.length (vs.map (Value.int .i64))) ∧ Hid (vs.length = k * n) ∧ Hid (pM n (cutL 47 s.data.toList) = (pM n ((cutL 47 s.data.toList).drop k)).map (vs ++ ·)) ∧ Hid (Below w.heap.size w wr) ∧ Hid (Blk wr w.heap.size 25 #[.int .i64 0, .slice none 0 0]) ∧ Hid (Blk wr M 25 #[.int .i64 n, x]) ∧ Hid (wr.heap[w.heap.size + 1]? = some (.cells (ps.map Value.string).toArray 9 (0, 0)))) (fun i _ => n - (intOf i).toNat)
    case atStart => exact ⟨0, _, [], Nat.zero_le _, rfl, O2.out, Lib.hid (by simp), Lib.hid (by simp), B2.out, R2.out, M2.out, G2.out⟩
    case round =>
      obtain ⟨k, x, vs, hk, rfl, hown, hvl, hp, hbw, hr, hm, hg⟩ := hrel
      obtain ⟨r0, r1⟩ := two_cells hr.out
      obtain ⟨rf0, rf1⟩ := two_frozen hr.out
      by_cases hlt : k < n
      · have hlt' : k < ps.length := by rw [← HN.out]; exact hlt
        have hc : wr.cell? ⟨w.heap.size + 1, k, none⟩ = some (.string ps[k]) := by
          rw [cell_of_row wr (w.heap.size + 1) k _ _ (0, 0) hg.out]
          rw [List.getElem?_toArray, List.getElem?_map, List.getElem?_eq_getElem hlt']; rfl
        obtain ⟨hd, hpsz⟩ := piece_at HP.out hlt'
        obtain ⟨q, hqe⟩ : ∃ q, q = ps[k] := ⟨_, rfl⟩
        rw [← hqe] at hc hd hpsz
        have hq : q.size ≤ 1048576 := by have := HSZ.out; omega
        have HD := Lib.hid hd
        clear hd hqe hpsz
        rcases hr' : parsesF q.data.toList with _ | us
        · have HV := Lib.hid hr'
          have HE := Lib.hid (parseM_none HCL.out (pM_stop hp.out HD.out hr'))
          clear hr'
          go_wp2_with fail
          refine (iP_none _ _ hq (HMX.out.below hbw.out hmlt) HV.out).mono ?_
          rintro e w3 ⟨y, rfl, hb3⟩
          have R3 := Lib.hid (blk_b hr.out hb3.out)
          have B3 := Lib.hid (below_on hbw.out hb3.out)
          clear r0 r1 rf0 rf1
          obtain ⟨r0, r1⟩ := two_cells R3.out
          obtain ⟨rf0, rf1⟩ := two_frozen R3.out
          go_wp2_with fail
          have HF := (R3.out.set_ 0 (.int .i64 0)).set_ 1 (.slice none 0 0)
          have HB := Lib.hid (MEnd.none_ (w := w) HE.out ((B3.out.setCell (p := ⟨w.heap.size, 0, none⟩) (Nat.le_refl _) (.int .i64 0)).setCell (p := ⟨w.heap.size, 1, none⟩) (Nat.le_refl _) (.slice none 0 0)))
          refine bodyPost_ret (results_2 rfl (gives_mat (g := w.heap.size) rfl HF) (Gives.tmp rfl)) rfl ?_
          exact HB.out
        · have HV := Lib.hid hr'
          clear hr'
          by_cases hun : us.length = n
          · have hbb : ((us.length : Int) != (n : Int)) = false := by rw [bne_eq_false_iff_eq]; omega
            have HU := Lib.hid hun
            have HE := Lib.hid (pM_step hp.out HD.out HV.out hun)
            clear hun
            go_wp2_with fail
            refine (iP_some _ _ hq (HMX.out.below hbw.out hmlt) us HV.out).mono ?_
            rintro e w3 ⟨A3, cap3, rfl, O3, hl3, hb3⟩
            have R3 := Lib.hid (blk_b hr.out hb3.out)
            have B3 := Lib.hid (below_on hbw.out hb3.out)
            have M3 := Lib.hid (blk_b hm.out hb3.out)
            have X3 := Lib.hid (own_under hown.out hb3.out)
            have G3 : Hid (w3.heap[w.heap.size + 1]? = some (.cells (ps.map Value.string).toArray 9 (0, 0))) := (hb3.out.block _ (lt_of_cell? hc)).trans hg.out
            obtain ⟨gs, rfl, hsrc⟩ := own_src O3.out (by rw [HU.out]; exact hn0)
            have HSRC := Lib.hid hsrc
            have S3 := Lib.hid B3.out.size
            clear r0 r1 rf0 rf1 hsrc hc hr hbw hown hm hb3
            obtain ⟨m0, m1⟩ := two_cells M3.out
            obtain ⟨mf0, mf1⟩ := two_frozen M3.out
            go_wp2_with (at_builtin; refine wpList_append_own _ rfl _ _ 23 rfl w.heap.size 3 i0 (.int .i64 0) 1 8 Tryd.underlying23 ZI.out Z0.out Z1.out Z2.out rfl (by decide) _ _ _ rfl X3.out ⟨gs, 0, none⟩ us.length cap3 (us.map (Value.int .i64)) rfl ?c0 ?c1 ?c2 ?c3 ?c4 ?c5 ?_)
            case c0 => simp
            case c1 => exact HSRC.out
            case c2 => intro u hu; obtain ⟨y, _, rfl⟩ := List.mem_map.1 hu; rfl
            case c3 => have h1 := hvl.out; have h2 : k * n ≤ 4 * 4 := Nat.mul_le_mul (by omega) h4; unfold maxLen; omega
            case c4 => have h1 := hvl.out; have h2 : k * n ≤ 4 * 4 := Nat.mul_le_mul (by omega) h4; omega
            case c5 => exact S3.out
            · intro v' w5 hown' hgrow _
              have hMx : ∀ j, x.ownBlock = some j → j ≠ M := fun j hj he => own_other X3.out M3.out (by decide) (by rw [hj, he])
              have hRx : ∀ j, x.ownBlock = some j → j ≠ w.heap.size := fun j hj he => own_other X3.out R3.out (by decide) (by rw [hj, he])
              have hGx : ∀ j, x.ownBlock = some j → j ≠ w.heap.size + 1 := fun j hj he => own_other X3.out G3.out (by decide) (by rw [hj, he])
              have M5 := Lib.hid (blk_g M3.out hgrow (fun he => hMx _ he.symm rfl))
              have R5 := Lib.hid (blk_g R3.out hgrow (fun he => hRx _ he.symm rfl))
              have G5 : Hid (w5.heap[w.heap.size + 1]? = some (.cells (ps.map Value.string).toArray 9 (0, 0))) := (hgrow.block _ (by have := M3.out.lt; omega) (fun he => hGx _ he.symm rfl)).trans G3.out
              have B5 := Lib.hid (B3.out.grown hgrow S3.out (fun j hj => (X3.out.lt j hj).1))
              rw [ints_snoc] at hown'
              obtain ⟨ws, hws⟩ : ∃ ws, ws = vs ++ us := ⟨_, rfl⟩
              have HEW : Hid (pM n (cutL 47 s.data.toList) = (pM n ((cutL 47 s.data.toList).drop (k + 1))).map (ws ++ ·)) := by show _ = _; rw [hws]; exact HE.out
              have O5 : Hid (w5.ownsRow w.heap.size 3 1 v' ws.length (ws.map (Value.int .i64))) := by show World.ownsRow _ _ _ _ _ _ _; rw [hws, List.length_append]; exact hown'
              have hvn : ws.length = (k + 1) * n := by rw [hws, List.length_append, hvl.out, HU.out, Nat.succ_mul]
              have HVN := Lib.hid hvn
              obtain ⟨A5, cap5, rfl, _, _⟩ := own_ints O5.out (by have h2 : (k + 1) * n ≤ 4 * 4 := Nat.mul_le_mul (by omega) h4; unfold maxLen; omega)
              have MW := Lib.hid (M5.out.set_ 1 (.slice A5 ws.length cap5))
              have RW := Lib.hid (R5.out.other M 1 (.slice A5 ws.length cap5) (by omega))
              have GW : Hid ((w5.setCell ⟨M, 1, none⟩ (.slice A5 ws.length cap5)).heap[w.heap.size + 1]? = some (.cells (ps.map Value.string).toArray 9 (0, 0))) := (Below.heap_setCell w5 ⟨M, 1, none⟩ _ _ hMg).trans G5.out
              have BW := Lib.hid (B5.out.setCell (p := ⟨M, 1, none⟩) hMle (.slice A5 ws.length cap5))
              have OW := Lib.hid (O5.out.kept (grow_set w5 M 1 (.slice A5 ws.length cap5)) (by
                rcases h0 : (Value.slice A5 ws.length cap5).ownBlock with _ | j
                · exact Or.inl rfl
                · right; intro he; exact own_other O5.out M5.out (by decide) (by rw [h0]; exact he.symm)))
              clear hws hown' hgrow hMx hRx hGx m0 m1 mf0 mf1 M3 R3 G3 B3 X3 hvn
              obtain ⟨m0, m1⟩ := two_cells M5.out
              obtain ⟨mf0, mf1⟩ := two_frozen M5.out
              go_wp2_with fail
              go_roundw
              case rel => exact ⟨k + 1, _, ws, by omega, by go_num, OW.out, HVN.out, HEW.out, BW.out, RW.out, MW.out, GW.out⟩
              case measure => simp [intOf]; omega
          · have hbb : ((us.length : Int) != (n : Int)) = true := by rw [bne_iff_ne]; omega
            have HE := Lib.hid (parseM_none HCL.out (pM_stop_len hp.out HD.out HV.out hun))
            clear hun
            go_wp2_with fail
            refine (iP_some _ _ hq (HMX.out.below hbw.out hmlt) us HV.out).mono ?_
            rintro e w3 ⟨A3, cap3, rfl, O3, hl3, hb3⟩
            have R3 := Lib.hid (blk_b hr.out hb3.out)
            have B3 := Lib.hid (below_on hbw.out hb3.out)
            have M3 := Lib.hid (blk_b hm.out hb3.out)
            clear r0 r1 rf0 rf1
            obtain ⟨r0, r1⟩ := two_cells R3.out
            obtain ⟨rf0, rf1⟩ := two_frozen R3.out
            obtain ⟨m0, m1⟩ := two_cells M3.out
            go_wp2_with fail
            have HF := (R3.out.set_ 0 (.int .i64 0)).set_ 1 (.slice none 0 0)
            have HB := Lib.hid (MEnd.none_ (w := w) HE.out ((B3.out.setCell (p := ⟨w.heap.size, 0, none⟩) (Nat.le_refl _) (.int .i64 0)).setCell (p := ⟨w.heap.size, 1, none⟩) (Nat.le_refl _) (.slice none 0 0)))
            refine bodyPost_ret (results_2 rfl (gives_mat (g := w.heap.size) rfl HF) (Gives.tmp rfl)) rfl ?_
            exact HB.out
      · have hkn : k = n := by omega
        have HE := Lib.hid (parseM_some HCL.out h4 (pM_done hp.out (by have := HCL.out; omega)))
        have hl16 : vs.length ≤ 16 := by have h1 := hvl.out; have h2 : k * n ≤ 4 * 4 := Nat.mul_le_mul (by omega) h4; omega
        obtain ⟨A5, cap5, rfl, _, _⟩ := own_ints hown.out (by unfold maxLen; omega)
        obtain ⟨m0, m1⟩ := two_cells hm.out
        go_wp2_with fail
        have HF := (hr.out.set_ 0 (.int .i64 n)).set_ 1 (.slice A5 vs.length cap5)
        have HB := Lib.hid (MEnd.some_ (w := w) (w' := (wr.setCell ⟨w.heap.size, 0, none⟩ (.int .i64 n)).setCell ⟨w.heap.size, 1, none⟩ (.slice A5 vs.length cap5)) HE.out ⟨_, rfl, (own_set_any (own_set_any hown.out hr.out (by decide) _ _) (hr.out.set_ 0 _) (by decide) _ _), by omega⟩ ((hbw.out.setCell (p := ⟨w.heap.size, 0, none⟩) (Nat.le_refl _) (.int .i64 n)).setCell (p := ⟨w.heap.size, 1, none⟩) (Nat.le_refl _) (.slice A5 vs.length cap5)))
        refine bodyPost_ret (results_2 rfl (gives_mat (g := w.heap.size) rfl HF) (Gives.tmp rfl)) rfl ?_
        exact HB.out
  · refine (sizeValid_f _ _ (by omega)).mono ?_
    rintro e w' ⟨rfl, rfl⟩
    have HE := Lib.hid (parseM_many HCL.out h4)
    have R2 := Lib.hid (HR.out.alloc (.cells #[.int .i64 n, .slice none 0 0] 25))
    have B2 := Lib.hid (below_al HBA.out (Nat.le_refl _) (.cells #[.int .i64 n, .slice none 0 0] 25))
    obtain ⟨r0, r1⟩ := two_cells R2.out
    obtain ⟨rf0, rf1⟩ := two_frozen R2.out
    go_wp2_with fail
    have HF := (R2.out.set_ 0 (.int .i64 0)).set_ 1 (.slice none 0 0)
    have HB := Lib.hid (MEnd.none_ (w := w) HE.out ((B2.out.setCell (p := ⟨w.heap.size, 0, none⟩) (Nat.le_refl _) (.int .i64 0)).setCell (p := ⟨w.heap.size, 1, none⟩) (Nat.le_refl _) (.slice none 0 0)))
    refine bodyPost_ret (results_2 rfl (gives_mat (g := w.heap.size) rfl HF) (Gives.tmp rfl)) rfl ?_
    exact HB.out
end Go.Proofs.YtonnolpjfjbjpaaDoor
namespace Go.Proofs.YtonnolpjfjbjpaaDoor
open Go.RowKit
set_option maxHeartbeats 1000000
set_option maxRecDepth 100000
set_option linter.unusedVariables false

theorem sP_some (s : ByteArray) (w : World) (hs : s.size ≤ 1048576) (us : List Int) (h : parsesF s.data.toList = some us) :
    Calls Tryd.prog 33 #[.string s] w fun e w' => ∃ A cap, e = .returned (.tuple #[.slice A us.length cap, .bool true]) ∧ Hid (w'.ownsRow w.heap.size 3 1 (.slice A us.length cap) us.length (us.map (Value.int .i64))) ∧ us.length ≤ 1048577 ∧ Hid (Below w.heap.size w w') := by
  have h0 := sParses_any s w hs
  rw [h] at h0
  refine h0.mono ?_
  rintro e w' ⟨y, rfl, h2, h3, h4⟩
  obtain ⟨A, cap, rfl, _, _⟩ := own_ints h2 (by simp at h4; unfold maxLen; simp; omega)
  exact ⟨A, cap, rfl, h2, h4, h3⟩
theorem sP_none (s : ByteArray) (w : World) (hs : s.size ≤ 1048576) (h : parsesF s.data.toList = none) :
    Calls Tryd.prog 33 #[.string s] w fun e w' => ∃ y, e = .returned (.tuple #[y, .bool false]) ∧ Hid (Below w.heap.size w w') := by
  have h0 := sParses_any s w hs
  rw [h] at h0
  refine h0.mono ?_
  rintro e w' ⟨y, rfl, h2, h3, h4⟩
  exact ⟨y, rfl, h3⟩
theorem ok_of_pM {n : Nat} {L : List (List UInt8)} {vs : List Int} (hn : L.length = n) (h1 : 1 ≤ n) (h4 : n ≤ 4) (h : pM n L = some vs) : matOk (n : Int) vs = true := by
  obtain ⟨hl, hv, _⟩ := pM_read _ _ _ h
  rw [matOk_all ⟨by omega, by omega⟩ (by rw [hl, hn]; simp)]
  exact hv

theorem sParseM_any (s : ByteArray) (w : World) (hs : s.size ≤ 1048576) :
    Calls Tryd.prog 12 #[.string s] w fun e w' => MEnd (parseM s.data.toList) w e w' := by
  obtain ⟨i0, hi, hz0, hz1, hz2⟩ := info_parts info_int
  have Z0 := Lib.hid hz0
  have Z1 := Lib.hid hz1
  have Z2 := Lib.hid hz2
  have ZI := Lib.hid hi
  have hsz : s.data.toList.length = s.size := by simp
  have HSZ := Lib.hid hsz
  clear hz0 hz1 hz2 hi hsz
  go_enter Tryd.func12, Tryd.ntmps12
  go_wp2_with fail
  refine (cut_any s 47 47 rfl _ hs).mono ?_
  rintro e w1 ⟨x0, ps, rfl, hps, hown, hb1, hfew⟩
  have hpos : 0 < ps.length := by
    have h1 : ps.length = (cutL 47 s.data.toList).length := by rw [← hps]; simp
    have h2 : ¬ (cutL 47 s.data.toList).length = 0 := fun h0 => cutL_ne 47 s.data.toList (List.eq_nil_of_length_eq_zero h0)
    omega
  obtain ⟨g, cap, cur, rfl, hg, hblk, hcells⟩ := own_strs hown hpos
  have hcl : (cutL 47 s.data.toList).length = ps.length := by rw [← hps]; simp
  have hn1' : ps.length ≤ 1048577 := by have := pieces_few 47 s.data.toList; have := HSZ.out; omega
  obtain ⟨n, hn⟩ : ∃ n, n = ps.length := ⟨_, rfl⟩
  have HK := Lib.hid hblk
  have HP := Lib.hid hps
  have HC := Lib.hid hcells
  have HN := Lib.hid hn
  have HCL := Lib.hid (hcl.trans hn.symm)
  have B2 := Lib.hid (below_on (below_a3 w (.cells #[.int .i64 0, .slice none 0 0] 25) (.cells #[] 3) (.cells #[.int .i64 0, .slice (some ⟨w.heap.size + 1, 0, none⟩) 0 0] 25)) hb1)
  have R2 := Lib.hid (blk_b (((Blk.new w 25 #[.int .i64 0, .slice none 0 0]).alloc (.cells #[] 3)).alloc (.cells #[.int .i64 0, .slice (some ⟨w.heap.size + 1, 0, none⟩) 0 0] 25)) hb1)
  have M2 := Lib.hid (blk_b (blk_new (g := w.heap.size + 2) (w := (w.alloc (.cells #[.int .i64 0, .slice none 0 0] 25)).alloc (.cells #[] 3)) (t := 25) (cs := #[.int .i64 0, .slice (some ⟨w.heap.size + 1, 0, none⟩) 0 0]) (by simp)) hb1)
  have O2' : (w.alloc (.cells #[.int .i64 0, .slice none 0 0] 25)).heap.size = w.heap.size + 1 := by simp
  have O2 : Hid (w1.ownsRow w.heap.size 3 1 (.slice (some ⟨w.heap.size + 1, 0, none⟩) 0 0) 0 []) := by
    have h := World.ownsRow_lit (e := 3) (size := 1) (w.alloc (.cells #[.int .i64 0, .slice none 0 0] 25)) #[] 0 (Nat.le_refl _) (Nat.zero_le _) rfl
    rw [O2'] at h
    exact own_base (own_under (h.alloc _) hb1) (Nat.le_succ _)
  have hn1 : n ≤ 1048577 := by omega
  have hn0 : 1 ≤ n := by omega
  rw [← hn]
  obtain ⟨M, hM⟩ : ∃ M, M = w.heap.size + 2 := ⟨_, rfl⟩
  rw [← hM] at M2 ⊢
  have hMw : w.heap.size + 1 < M := by omega
  have hMle : w.heap.size ≤ M := by omega
  have hMg' : ¬ g = M := by
    intro he
    have h1 : w1.heap[g]? = some (.cells #[.int .i64 0, .slice (some ⟨w.heap.size + 1, 0, none⟩) 0 0] 25 (0, 0)) := by rw [he]; exact M2.out
    rw [hblk] at h1
    cases h1
  have hMg := hMg'
  clear hM hps hown hb1 hfew hpos hblk hcells hcl hn1' hn hg O2' hMg'
  go_wp2_with fail
  go_loopw [16] (fun i wr => ∃ (k : Nat) (x : Value) (vs : List Int), k ≤ n ∧ i = .int .i64 k ∧ Hid (wr.ownsRow w.heap.size 3 1 x vs.length (vs.map (Value.int .i64))) ∧ Hid (vs.length = k * n) ∧ Hid (pM n (cutL 47 s.data.toList) = (pM n ((cutL 47 s.data.toList).drop k)).map (vs ++ ·)) ∧ Hid (Below w.heap.size w wr) ∧ Hid (Blk wr w.heap.size 25 #[.int .i64 0, .slice none 0 0]) ∧ Hid (Blk wr M 25 #[.int .i64 0, x]) ∧ Hid (wr.heap[g]? = w1.heap[g]?)) (fun i _ => n - (intOf i).toNat)
  case atStart => exact ⟨0, _, [], Nat.zero_le _, rfl, O2.out, Lib.hid (by simp), Lib.hid (by simp), B2.out, R2.out, M2.out, rfl⟩
  case round =>
    obtain ⟨k, x, vs, hk, rfl, hown, hvl, hp, hbw, hr, hm, hg⟩ := hrel
    obtain ⟨r0, r1⟩ := two_cells hr.out
    obtain ⟨rf0, rf1⟩ := two_frozen hr.out
    by_cases hlt : k < n
    · have hlt' : k < ps.length := by rw [← HN.out]; exact hlt
      have hc := (World.cell?_of_block (a := ⟨g, k, none⟩) hg.out).trans (HC.out k hlt')
      obtain ⟨hd, hpsz⟩ := piece_at HP.out hlt'
      obtain ⟨q, hqe⟩ : ∃ q, q = ps[k] := ⟨_, rfl⟩
      rw [← hqe] at hc hd hpsz
      have hq : q.size ≤ 1048576 := by have := HSZ.out; omega
      have HD := Lib.hid hd
      clear hd hqe hpsz
      rcases hr' : parsesF q.data.toList with _ | us
      · have HV := Lib.hid hr'
        have HE := Lib.hid (parseM_none HCL.out (pM_stop hp.out HD.out hr'))
        clear hr'
        go_wp2_with fail
        refine (sP_none _ _ hq HV.out).mono ?_
        rintro e w3 ⟨y, rfl, hb3⟩
        have R3 := Lib.hid (blk_b hr.out hb3.out)
        have B3 := Lib.hid (below_on hbw.out hb3.out)
        clear r0 r1 rf0 rf1
        obtain ⟨r0, r1⟩ := two_cells R3.out
        obtain ⟨rf0, rf1⟩ := two_frozen R3.out
        go_wp2_with fail
        have HF := (R3.out.set_ 0 (.int .i64 0)).set_ 1 (.slice none 0 0)
        have HB := Lib.hid (MEnd.none_ (w := w) HE.out ((B3.out.setCell (p := ⟨w.heap.size, 0, none⟩) (Nat.le_refl _) (.int .i64 0)).setCell (p := ⟨w.heap.size, 1, none⟩) (Nat.le_refl _) (.slice none 0 0)))
        refine bodyPost_ret (results_2 rfl (gives_mat (g := w.heap.size) rfl HF) (Gives.tmp rfl)) rfl ?_
        exact HB.out
      · have HV := Lib.hid hr'
        clear hr'
        by_cases hun : us.length = n
        · have hbb : ((us.length : Int) != (n : Int)) = false := by rw [bne_eq_false_iff_eq]; omega
          have HU := Lib.hid hun
          have HE := Lib.hid (pM_step hp.out HD.out HV.out hun)
          clear hun
          go_wp2_with fail
          refine (sP_some _ _ hq us HV.out).mono ?_
          rintro e w3 ⟨A3, cap3, rfl, O3, hl3, hb3⟩
          have R3 := Lib.hid (blk_b hr.out hb3.out)
          have B3 := Lib.hid (below_on hbw.out hb3.out)
          have M3 := Lib.hid (blk_b hm.out hb3.out)
          have X3 := Lib.hid (own_under hown.out hb3.out)
          have HGL : Hid (g < w3.heap.size ∧ True) := ⟨Nat.lt_of_lt_of_le (lt_of_cell? hc) hb3.out.size, trivial⟩
          have G3 : Hid (w3.heap[g]? = w1.heap[g]?) := (hb3.out.block _ (lt_of_cell? hc)).trans hg.out
          obtain ⟨gs, rfl, hsrc⟩ := own_src O3.out (by rw [HU.out]; exact hn0)
          have HSRC := Lib.hid hsrc
          have S3 := Lib.hid B3.out.size
          clear r0 r1 rf0 rf1 hsrc hc hr hbw hown hm hb3
          obtain ⟨m0, m1⟩ := two_cells M3.out
          obtain ⟨mf0, mf1⟩ := two_frozen M3.out
          go_wp2_with (at_builtin; refine wpList_append_own _ rfl _ _ 23 rfl w.heap.size 3 i0 (.int .i64 0) 1 8 Tryd.underlying23 ZI.out Z0.out Z1.out Z2.out rfl (by decide) _ _ _ rfl X3.out ⟨gs, 0, none⟩ us.length cap3 (us.map (Value.int .i64)) rfl ?c0 ?c1 ?c2 ?c3 ?c4 ?c5 ?_)
          case c0 => simp
          case c1 => exact HSRC.out
          case c2 => intro u hu; obtain ⟨y, _, rfl⟩ := List.mem_map.1 hu; rfl
          case c3 => have h1 := hvl.out; have h2 : k * n ≤ 1048577 * 1048577 := Nat.mul_le_mul (by omega) hn1; unfold maxLen; omega
          case c4 => have h1 := hvl.out; have h2 : k * n ≤ 1048577 * 1048577 := Nat.mul_le_mul (by omega) hn1; omega
          case c5 => exact S3.out
          · intro v' w5 hown' hgrow _
            have hMx : ∀ j, x.ownBlock = some j → j ≠ M := fun j hj he => own_other X3.out M3.out (by decide) (by rw [hj, he])
            have hRx : ∀ j, x.ownBlock = some j → j ≠ w.heap.size := fun j hj he => own_other X3.out R3.out (by decide) (by rw [hj, he])
            have hGx : ∀ j, x.ownBlock = some j → j ≠ g := fun j hj he => own_other X3.out (G3.out.trans HK.out) (by decide) (by rw [hj, he])
            have M5 := Lib.hid (blk_g M3.out hgrow (fun he => hMx _ he.symm rfl))
            have R5 := Lib.hid (blk_g R3.out hgrow (fun he => hRx _ he.symm rfl))
            have G5 : Hid (w5.heap[g]? = w1.heap[g]?) := (hgrow.block _ HGL.out.1 (fun he => hGx _ he.symm rfl)).trans G3.out
            have B5 := Lib.hid (B3.out.grown hgrow S3.out (fun j hj => (X3.out.lt j hj).1))
            rw [ints_snoc] at hown'
            obtain ⟨ws, hws⟩ : ∃ ws, ws = vs ++ us := ⟨_, rfl⟩
            have HEW : Hid (pM n (cutL 47 s.data.toList) = (pM n ((cutL 47 s.data.toList).drop (k + 1))).map (ws ++ ·)) := by show _ = _; rw [hws]; exact HE.out
            have O5 : Hid (w5.ownsRow w.heap.size 3 1 v' ws.length (ws.map (Value.int .i64))) := by show World.ownsRow _ _ _ _ _ _ _; rw [hws, List.length_append]; exact hown'
            have hvn : ws.length = (k + 1) * n := by rw [hws, List.length_append, hvl.out, HU.out, Nat.succ_mul]
            have HVN := Lib.hid hvn
            obtain ⟨A5, cap5, rfl, _, _⟩ := own_ints O5.out (by have h2 : (k + 1) * n ≤ 1048577 * 1048577 := Nat.mul_le_mul (by omega) hn1; unfold maxLen; omega)
            have MW := Lib.hid (M5.out.set_ 1 (.slice A5 ws.length cap5))
            have RW := Lib.hid (R5.out.other M 1 (.slice A5 ws.length cap5) (by omega))
            have GW : Hid ((w5.setCell ⟨M, 1, none⟩ (.slice A5 ws.length cap5)).heap[g]? = w1.heap[g]?) := (Below.heap_setCell w5 ⟨M, 1, none⟩ _ _ hMg).trans G5.out
            have BW := Lib.hid (B5.out.setCell (p := ⟨M, 1, none⟩) hMle (.slice A5 ws.length cap5))
            have OW := Lib.hid (O5.out.kept (grow_set w5 M 1 (.slice A5 ws.length cap5)) (by
              rcases h0 : (Value.slice A5 ws.length cap5).ownBlock with _ | j
              · exact Or.inl rfl
              · right; intro he; exact own_other O5.out M5.out (by decide) (by rw [h0]; exact he.symm)))
            clear hws hown' hgrow hMx hRx hGx m0 m1 mf0 mf1 M3 R3 G3 B3 X3 hvn
            obtain ⟨m0, m1⟩ := two_cells M5.out
            obtain ⟨mf0, mf1⟩ := two_frozen M5.out
            go_wp2_with fail
            go_roundw
            case rel => exact ⟨k + 1, _, ws, by omega, by go_num, OW.out, HVN.out, HEW.out, BW.out, RW.out, MW.out, GW.out⟩
            case measure => simp [intOf]; omega
        · have hbb : ((us.length : Int) != (n : Int)) = true := by rw [bne_iff_ne]; omega
          have HE := Lib.hid (parseM_none HCL.out (pM_stop_len hp.out HD.out HV.out hun))
          clear hun
          go_wp2_with fail
          refine (sP_some _ _ hq us HV.out).mono ?_
          rintro e w3 ⟨A3, cap3, rfl, O3, hl3, hb3⟩
          have R3 := Lib.hid (blk_b hr.out hb3.out)
          have B3 := Lib.hid (below_on hbw.out hb3.out)
          have M3 := Lib.hid (blk_b hm.out hb3.out)
          clear r0 r1 rf0 rf1
          obtain ⟨r0, r1⟩ := two_cells R3.out
          obtain ⟨rf0, rf1⟩ := two_frozen R3.out
          obtain ⟨m0, m1⟩ := two_cells M3.out
          go_wp2_with fail
          have HF := (R3.out.set_ 0 (.int .i64 0)).set_ 1 (.slice none 0 0)
          have HB := Lib.hid (MEnd.none_ (w := w) HE.out ((B3.out.setCell (p := ⟨w.heap.size, 0, none⟩) (Nat.le_refl _) (.int .i64 0)).setCell (p := ⟨w.heap.size, 1, none⟩) (Nat.le_refl _) (.slice none 0 0)))
          refine bodyPost_ret (results_2 rfl (gives_mat (g := w.heap.size) rfl HF) (Gives.tmp rfl)) rfl ?_
          exact HB.out
    · have hkn : k = n := by omega
      have hpm := pM_done hp.out (by have := HCL.out; omega)
      have hvb : vs.length ≤ 1099513724929 := by have h1 := hvl.out; have h2 : k * n ≤ 1048577 * 1048577 := Nat.mul_le_mul (by omega) hn1; omega
      obtain ⟨A5, cap5, rfl, _, _⟩ := own_ints hown.out (by unfold maxLen; omega)
      obtain ⟨m0, m1⟩ := two_cells hm.out
      obtain ⟨mf0, mf1⟩ := two_frozen hm.out
      have M6 := Lib.hid (hm.out.set_ 0 (.int .i64 n))
      have R6 := Lib.hid (hr.out.other M 0 (.int .i64 n) (by omega))
      have B6 := Lib.hid (hbw.out.setCell (p := ⟨M, 0, none⟩) hMle (.int .i64 n))
      have O6 := Lib.hid (own_set_any hown.out hm.out (by decide) 0 (.int .i64 n))
      obtain ⟨_, _, he6, _, hi6⟩ := own_ints O6.out (by unfold maxLen; omega)
      cases he6
      have I6 := Lib.hid hi6
      have HPM := Lib.hid hpm
      clear hi6 hpm r0 r1 rf0 rf1
      by_cases h4 : n ≤ 4
      · have HE := Lib.hid (parseM_some HCL.out h4 HPM.out)
        have hl16 : vs.length ≤ 16 := by have h1 := hvl.out; have h2 : k * n ≤ 4 * 4 := Nat.mul_le_mul (by omega) h4; omega
        have HOK := Lib.hid (ok_of_pM HCL.out hn0 h4 HPM.out)
        go_wp2_with fail
        refine (sMatrixValid_is _ _ _ _ true _ I6.out HOK.out).mono ?_
        rintro e w7 ⟨rfl, hb7⟩
        have M7 := Lib.hid (blk_b M6.out hb7)
        have R7 := Lib.hid (blk_b R6.out hb7)
        have B7 := Lib.hid (below_on B6.out hb7)
        have O7 := Lib.hid (own_under O6.out hb7)
        clear hb7 m0 m1 mf0 mf1
        obtain ⟨m0, m1⟩ := two_cells M7.out
        obtain ⟨r0, r1⟩ := two_cells R7.out
        obtain ⟨rf0, rf1⟩ := two_frozen R7.out
        go_wp2_with fail
        have HF := (R7.out.set_ 0 (.int .i64 n)).set_ 1 (.slice A5 vs.length cap5)
        have HB := Lib.hid (MEnd.some_ (w := w) (w' := (w7.setCell ⟨w.heap.size, 0, none⟩ (.int .i64 n)).setCell ⟨w.heap.size, 1, none⟩ (.slice A5 vs.length cap5)) HE.out ⟨_, rfl, (own_set_any (own_set_any O7.out R7.out (by decide) _ _) (R7.out.set_ 0 _) (by decide) _ _), by omega⟩ ((B7.out.setCell (p := ⟨w.heap.size, 0, none⟩) (Nat.le_refl _) (.int .i64 n)).setCell (p := ⟨w.heap.size, 1, none⟩) (Nat.le_refl _) (.slice A5 vs.length cap5)))
        refine bodyPost_ret (results_2 rfl (gives_mat (g := w.heap.size) rfl HF) (Gives.tmp rfl)) rfl ?_
        exact HB.out
      · have HE := Lib.hid (parseM_many HCL.out h4)
        have HOK := Lib.hid (matOk_size (m := (n : Int)) (zs := vs) (by omega))
        go_wp2_with fail
        refine (sMatrixValid_is _ _ _ _ false _ I6.out HOK.out).mono ?_
        rintro e w7 ⟨rfl, hb7⟩
        have R7 := Lib.hid (blk_b R6.out hb7)
        have B7 := Lib.hid (below_on B6.out hb7)
        clear hb7 m0 m1 mf0 mf1
        obtain ⟨r0, r1⟩ := two_cells R7.out
        obtain ⟨rf0, rf1⟩ := two_frozen R7.out
        go_wp2_with fail
        have HF := (R7.out.set_ 0 (.int .i64 0)).set_ 1 (.slice none 0 0)
        have HB := Lib.hid (MEnd.none_ (w := w) HE.out ((B7.out.setCell (p := ⟨w.heap.size, 0, none⟩) (Nat.le_refl _) (.int .i64 0)).setCell (p := ⟨w.heap.size, 1, none⟩) (Nat.le_refl _) (.slice none 0 0)))
        refine bodyPost_ret (results_2 rfl (gives_mat (g := w.heap.size) rfl HF) (Gives.tmp rfl)) rfl ?_
        exact HB.out
end Go.Proofs.YtonnolpjfjbjpaaDoor
