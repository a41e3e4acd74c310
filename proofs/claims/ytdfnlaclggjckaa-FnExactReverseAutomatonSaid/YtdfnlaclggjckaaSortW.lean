/- The program's steps of a machine, sorted by the library: the entries of its map in order, in a new slice. Conditions: the map's states are below four and its letters are letters; at most a thousand entries. -/
import Derived.Test.YtdfnlaclggjckaaSortP
import Derived.Test.YtdfnlaclggjckaaListA
import Derived.Test.YtdfnlaclggjckaaOwnK
import Derived.Test.YtdfnlaclggjckaaShelf
namespace Go.Proofs.Ytdfnlaclggjckaa
open Go.RowKit Go.Shelf Go.Sort
set_option maxHeartbeats 4000000
set_option maxRecDepth 100000
set_option linter.unusedVariables false

theorem compareSteps_g (s t : StepD) (w : World) :
    Calls Try.prog 108 #[stepV s, stepV t] w fun e w' => e = .returned (.int .i64 (cmpS s t)) ∧ ∃ q os', w' = grow (w.drewN q) os' := by
  unfold stepV
  go_enter Try.func108, Try.ntmps108
  go_wp2_with fail
  obtain ⟨W, hW⟩ : ∃ W, W = (w.alloc (.cells #[.int .i64 s.fr, .string s.le, .int .i64 s.to_, .int .i64 s.co] 73)).alloc (.cells #[.int .i64 t.fr, .string t.le, .int .i64 t.to_, .int .i64 t.co] 73) := ⟨_, rfl⟩
  have HA : Hid (Blk W w.heap.size 73 #[.int .i64 s.fr, .string s.le, .int .i64 s.to_, .int .i64 s.co]) := by rw [hW]; exact (Blk.new _ _ _).alloc _
  have HB : Hid (Blk W (w.heap.size + 1) 73 #[.int .i64 t.fr, .string t.le, .int .i64 t.to_, .int .i64 t.co]) := by rw [hW]; exact blk_new (by simp)
  have HG : Hid (∀ o, ∃ q os', (W.alloc o).drew = grow (w.drewN q) os') := fun o => by
    rw [hW, alloc_eq_grow, alloc_eq_grow, alloc_eq_grow, grow_grow, grow_grow]
    exact ⟨1, _, rfl⟩
  rw [← hW]
  clear hW
  have KS : ∀ w', Blk w' w.heap.size 73 #[.int .i64 s.fr, .string s.le, .int .i64 s.to_, .int .i64 s.co] → Blk w' (w.heap.size + 1) 73 #[.int .i64 t.fr, .string t.le, .int .i64 t.to_, .int .i64 t.co] → (w'.cell? ⟨w.heap.size, 0, none⟩ = some (.int .i64 s.fr) ∧ w'.cell? ⟨w.heap.size, 1, none⟩ = some (.string s.le) ∧ w'.cell? ⟨w.heap.size, 2, none⟩ = some (.int .i64 s.to_) ∧ w'.cell? ⟨w.heap.size + 1, 0, none⟩ = some (.int .i64 t.fr) ∧ w'.cell? ⟨w.heap.size + 1, 1, none⟩ = some (.string t.le) ∧ w'.cell? ⟨w.heap.size + 1, 2, none⟩ = some (.int .i64 t.to_)) := fun w' h1 h2 => ⟨h1.cell 0, h1.cell 1, h1.cell 2, h2.cell 0, h2.cell 1, h2.cell 2⟩
  have hS0 := KS W.drew HA.out HB.out
  have KD : Hid (∀ o, (((W.alloc o).drew).cell? ⟨w.heap.size, 0, none⟩ = some (.int .i64 s.fr) ∧ ((W.alloc o).drew).cell? ⟨w.heap.size, 1, none⟩ = some (.string s.le) ∧ ((W.alloc o).drew).cell? ⟨w.heap.size, 2, none⟩ = some (.int .i64 s.to_) ∧ ((W.alloc o).drew).cell? ⟨w.heap.size + 1, 0, none⟩ = some (.int .i64 t.fr) ∧ ((W.alloc o).drew).cell? ⟨w.heap.size + 1, 1, none⟩ = some (.string t.le) ∧ ((W.alloc o).drew).cell? ⟨w.heap.size + 1, 2, none⟩ = some (.int .i64 t.to_))) := fun o => KS _ (HA.out.alloc o) (HB.out.alloc o)
  have HI : Hid (Ints ((W.alloc (.cells #[.int .i64 (cmpI s.fr t.fr), .int .i64 (Lib.compareBytes s.le.data.toList t.le.data.toList), .int .i64 (cmpI s.to_ t.to_)] 3)).drew) (W.heap.size + 1) (some ⟨W.heap.size, 0, none⟩) [cmpI s.fr t.fr, Lib.compareBytes s.le.data.toList t.le.data.toList, cmpI s.to_ t.to_]) := three_ints W _ _ _ _
  clear KS
  go_region_held3 (fun w' => w'.cell? ⟨w.heap.size, 0, none⟩ = some (.int .i64 s.fr) ∧ w'.cell? ⟨w.heap.size, 1, none⟩ = some (.string s.le) ∧ w'.cell? ⟨w.heap.size, 2, none⟩ = some (.int .i64 s.to_) ∧ w'.cell? ⟨w.heap.size + 1, 0, none⟩ = some (.int .i64 t.fr) ∧ w'.cell? ⟨w.heap.size + 1, 1, none⟩ = some (.string t.le) ∧ w'.cell? ⟨w.heap.size + 1, 2, none⟩ = some (.int .i64 t.to_)) (first | with_reducible assumption | with_reducible exact KD.out _ | skip)
    (first
      | (go_at_call_of 120 (Value.int .i64 s.fr); refine (cmpI_any s.fr t.fr _).mono ?_; rintro e w1 ⟨rfl, rfl⟩)
      | (go_at_call_of 120 (Value.int .i64 s.to_); refine (cmpI_any s.to_ t.to_ _).mono ?_; rintro e w2 ⟨rfl, rfl⟩)
      | (go_at_call 121; refine (compare_any s.le t.le _).mono ?_; rintro e w3 ⟨rfl, rfl⟩)
      | (go_at_call 119; refine (or_any _ 3 _ _ _ HI.out).mono ?_; rintro e w4 ⟨rfl, rfl⟩))
  all_goals
    go_wp2_with fail
    go_ret
    exact ⟨rfl, HG.out _⟩
theorem cmpLays (blk off size : Nat) (w : World) : CmpLays Try.prog 108 #[] encM 4 cmpM blk off size w :=
  fun _ _ _ _ x y => compareSteps_g x.1 y.1 _

/-- Steps laid by the sort where they lay before. -/
theorem own_sorted4 {w : World} {B g cap m n : Nat} {ss ts : List StepD} {os : Array Obj} (h : w.ownsRow B 73 4 (.slice (some ⟨g, 0, none⟩) n cap) n (flatS ss)) (d' : Array MS) (hd : d'.toList.map (·.1) = ts) (hl : ts.length = ss.length) :
    (sortWorldK encM 4 w g 0 m d' os).ownsRow B 73 4 (.slice (some ⟨g, 0, none⟩) n cap) n (flatS ts) := by
  have h0 := h.1
  rw [flatS_len] at h0
  rcases h.2 with ⟨hv, _⟩ | ⟨g', cap', cur, hv, hb, hg, h1, h2, h3, h4⟩
  · cases hv
  cases hv
  have hsz : d'.size * 4 = n * 4 := by
    have : (d'.toList.map (·.1)).length = ts.length := by rw [hd]
    simp at this
    omega
  refine ⟨by rw [flatS_len, hl]; exact h0, .inr ⟨g, cap, putCells id 0 (flatK encM 4 d') cur, rfl, hb, ?_, h1, h2, by simp [putCells, h3], ?_⟩⟩
  · unfold sortWorldK putRowK
    have hgl : g < w.heap.size := (Array.getElem?_eq_some_iff.1 hg).1
    rw [heap_grow_old _ _ (by simpa using hgl)]
    simp [putRow, mapBlock, Sort.ahead, Array.getElem?_modify, hg, onCells]
  · apply List.ext_getElem?
    intro j
    by_cases hj : j < n * 4
    · rw [List.getElem?_take_of_lt hj, Array.getElem?_toList]
      have hjc : j < cur.size := by rw [h3]; have := Nat.mul_le_mul_right 4 h1; omega
      have e1 : (putCells id 0 (flatK encM 4 d') cur)[j]? = some ((flatK encM 4 d')[j]!) := by
        unfold putCells
        rw [Array.getElem?_mapIdx]
        simp [hjc, hsz, hj]
      rw [e1, flatK_S, hd, Array.getElem!_eq_getD, Array.getD_eq_getD_getElem?, List.getElem?_toArray]
      have : j < (flatS ts).length := by rw [flatS_len, hl]; omega
      rw [List.getElem?_eq_getElem this]
      rfl
    · rw [List.getElem?_eq_none (by simp; omega), List.getElem?_eq_none (by rw [flatS_len, hl]; omega)]
theorem grownBy_sorted4 {w : World} {g m : Nat} {os : Array Obj} (d' : Array MS) : w.grownBy (sortWorldK encM 4 w g 0 m d' os) (some g) := by
  unfold sortWorldK putRowK
  refine ⟨rfl, rfl, rfl, by simp, fun k hk hne => ?_⟩
  rw [heap_grow_old _ _ (by simpa using hk)]
  have : g ≠ k := fun e => hne (by rw [e])
  simp [putRow, mapBlock, Sort.ahead, Array.getElem?_modify, this]
theorem holds_own4 {w : World} {B g cap n : Nat} {ss : List StepD} (h : w.ownsRow B 73 4 (.slice (some ⟨g, 0, none⟩) n cap) n (flatS ss)) (d : Array MS) (hd : d.toList.map (·.1) = ss) : HoldsK encM 4 w g 0 d := by
  have h0 := h.1
  rw [flatS_len] at h0
  rcases h.2 with ⟨hv, _⟩ | ⟨g', cap', cur, hv, hb, hg, h1, h2, h3, h4⟩
  · cases hv
  cases hv
  intro j hj
  have hj' : j < d.size * 4 := by simpa using hj
  have hsz : d.size = ss.length := by
    have : (d.toList.map (·.1)).length = ss.length := by rw [hd]
    simpa using this
  refine ⟨?_, by simp [World.frozen?, hg]⟩
  rw [Nat.zero_add, cell_of_row w g j cur _ _ hg]
  have e : cur[j]? = (flatS ss)[j]? := by
    rw [← h4, List.getElem?_take_of_lt (by omega), Array.getElem?_toList]
  rw [e, flatK_S, hd, Array.getElem!_eq_getD, Array.getD_eq_getD_getElem?, List.getElem?_toArray]
  have : j < (flatS ss).length := by rw [flatS_len]; omega
  rw [List.getElem?_eq_getElem this]
  rfl
/-- The library's sort of the call's own steps, no two of which have the same move. -/
theorem sort_any (B n : Nat) (x : Value) (ss : List StepD) (w : World) (h : w.ownsRow B 73 4 x n (flatS ss)) (hn : ss.length = n) (hn1 : n ≤ 1000) (hm : ∀ s ∈ ss, mvOk s) (hp : ss.Pairwise (fun a b => ¬ code a = code b)) :
    Calls Try.prog 117 #[x, .func (.func 108) #[] #[]] w fun e w' => e = .returned (.tuple #[]) ∧ ∃ ts : List StepD, ts.Perm ss ∧ ts.Pairwise (fun a b => code a < code b) ∧ Hid (w'.ownsRow B 73 4 x n (flatS ts)) ∧ Hid (w.grownBy w' x.ownBlock) := by
  rcases h.2 with ⟨rfl, rfl⟩ | ⟨g, cap, cur, rfl, hb, hg, _⟩
  · have e : ss = [] := List.eq_nil_of_length_eq_zero hn
    subst e
    refine (AnyF.slices_SortFunc_none Try.sortLay none 0 _ w).mono ?_
    rintro e w' ⟨rfl, rfl⟩
    exact ⟨rfl, [], List.Perm.refl _, List.Pairwise.nil, Lib.hid h, Lib.hid (World.grownBy.refl _ _)⟩
  · obtain ⟨ms, hms⟩ := lift_M ss hm
    have hgl : g < w.heap.size := (Array.getElem?_eq_some_iff.1 hg).1
    have hsz : ms.toArray.size = n := by
      have : (ms.map (·.1)).length = ss.length := by rw [hms]
      simp at this
      simp; omega
    have eg : ∀ args w, (callFunc 108 args).run Try.prog w = .ok (.enter 108 args) w := enters_of Try.func108 (by kernel_rfl) rfl
    have hc := AnyQ.slices_SortFunc Try.sortLay 4 Try.isAgg73 Try.sizeOf73 encM encM_len encM_one cmpM swoM 108 #[] g 0 cap ms.toArray w eg (cmpLays g 0 ms.toArray.size w) (holds_own4 h ms.toArray (by simpa using hms)) hgl (by rw [hsz]; omega)
    rw [hsz] at hc
    refine hc.mono ?_
    rintro e w' ⟨rfl, d', m, os, hpm, hso, rfl⟩
    rw [← hsz] at hpm hso
    obtain ⟨p1, p2⟩ := sorted_M ms.toArray d' hpm hso (by
      have : (ms.map (·.1)).Pairwise (fun a b => ¬ code a = code b) := by rw [hms]; exact hp
      exact List.pairwise_map.1 this)
    have hperm : (d'.toList.map (·.1)).Perm ss := by rw [← hms]; exact (p1.map _).trans (by simp)
    refine ⟨rfl, d'.toList.map (·.1), hperm, by rw [List.pairwise_map]; exact p2, Lib.hid (own_sorted4 h d' rfl hperm.length_eq), Lib.hid (grownBy_sorted4 d')⟩
theorem steps_any (n M cnt : Nat) (b0 b1 b2 b3 b4 b5 b6 b7 : Bool) (F : FF) (w : World) (hM : CMap w M cnt F) (hc : cnt ≤ 1000) (hF : ∀ f l t c, kwf f l t → F f l t = some c → mvOk ⟨f, l, t, c⟩) :
    Calls Try.prog 105 #[.agg #[.int .i64 n, .bool b0, .bool b1, .bool b2, .bool b3, .bool b4, .bool b5, .bool b6, .bool b7, .map (some M)]] w fun e w' => ∃ x us, e = .returned x ∧ Hid (w'.ownsRow w.heap.size 73 4 x us.length (flatS us)) ∧ us.length ≤ cnt ∧ us.Pairwise (fun a b => code a < code b) ∧ (∀ s, s ∈ us ↔ mvOk s ∧ F s.fr s.le s.to_ = some s.co) ∧ Hid (Below w.heap.size w w') := by
  obtain ⟨i0, hi, hz0, hz1, hz2⟩ := info_step'
  have Z0 := Lib.hid hz0
  have Z1 := Lib.hid hz1
  have Z2 := Lib.hid hz2
  have ZI := Lib.hid hi
  have HF := Lib.hid hF
  have MM := Lib.hid (hM.kept (World.grownBy_alloc w (.cells #[.int .i64 n, .bool b0, .bool b1, .bool b2, .bool b3, .bool b4, .bool b5, .bool b6, .bool b7, .map (some M)] 58) none) (by simp))
  have hMw := hM.lt
  have A1 : Hid (Blk (w.alloc (.cells #[.int .i64 n, .bool b0, .bool b1, .bool b2, .bool b3, .bool b4, .bool b5, .bool b6, .bool b7, .map (some M)] 58)) w.heap.size 58 #[.int .i64 n, .bool b0, .bool b1, .bool b2, .bool b3, .bool b4, .bool b5, .bool b6, .bool b7, .map (some M)]) := Blk.new _ _ _
  have B1 := Lib.hid (below_a1 w (.cells #[.int .i64 n, .bool b0, .bool b1, .bool b2, .bool b3, .bool b4, .bool b5, .bool b6, .bool b7, .map (some M)] 58))
  clear hz0 hz1 hz2 hi hF hM
  go_enter Try.func105, Try.ntmps105
  go_upto_region 2 with fail
  generalize w.alloc (.cells #[.int .i64 n, .bool b0, .bool b1, .bool b2, .bool b3, .bool b4, .bool b5, .bool b6, .bool b7, .map (some M)] 58) = w2 at MM A1 B1 ⊢
  have pc9 := A1.out.cell 9
  simp at pc9
  have hs2 : w.heap.size ≤ w2.heap.size := B1.out.size
  go_wp2_with (first
    | (at_range; refine wpList_range_c _ rfl _ rfl M cnt F rfl MM.out ?_; intro w3 cn hran hgr hs3)
    | fail)
  go_frame
  obtain ⟨R, hR⟩ : ∃ R, R = w2.heap.size := ⟨_, rfl⟩
  rw [← hR]
  rw [← hR] at hran
  have hs4 : w3.heap.size = R + 1 := by omega
  have B3 : Hid (Below w.heap.size w w3) := B1.out.grown hgr B1.out.size (fun j hj => by cases hj)
  have RA := Lib.hid hran
  have hcn : cn ≤ cnt := hran.cnt_le
  have hwR : w.heap.size ≤ R := by omega
  have hMR : M < R := by omega
  clear A1 B1 MM hran hgr pc9 hs3 hs2 hR
  go_loopw [3] (fun x wr => ∃ (left : LF) (cn : Nat) (us : List StepD), us.length + cn ≤ cnt ∧ Hid (CRan wr M R cnt F left cn) ∧ Hid (SetP F left us) ∧ Hid (wr.ownsRow (R + 1) 73 4 x us.length (flatS us)) ∧ Hid (Below w.heap.size w wr) ∧ R + 1 ≤ wr.heap.size) (fun _ wr => wr.rangeLeft M R)
  case atStart => exact ⟨_, _, [], by simp; omega, RA, setP_start F, World.ownsRow_nil _ _ _ _, B3, by omega⟩
  case round =>
    obtain ⟨left, cn, us, hk, hra, hsp, hown, hbw, hws⟩ := hrel
    go_wp2_with (first
      | (at_next; refine wpList_next_c _ rfl _ rfl M R cnt F left cn rfl hra.out ?_ ?_)
      | fail)
    · intro hl0
      have HD := Lib.hid (setP_done hsp.out hl0)
      have HP := Lib.hid hsp.out.2
      clear hra
      go_wp2_with fail
      refine (sort_any (R + 1) us.length _ us _ hown.out rfl (by omega) (fun s hs => ((HD.out s).1 hs).1) HP.out).mono ?_
      rintro e w4 ⟨rfl, ts, hperm, hpw, hown4, hg4⟩
      have O4 := Lib.hid (own4_base hown4.out (show w.heap.size ≤ R + 1 by omega))
      have B4 := Lib.hid (hbw.out.grown hg4.out hbw.out.size (fun j hj => by have := (hown.out.lt j hj).1; omega))
      have hlen : ts.length = us.length := hperm.length_eq
      have HE := Lib.hid hlen
      have HM : Hid (∀ s, s ∈ ts ↔ mvOk s ∧ F s.fr s.le s.to_ = some s.co) := fun s => by rw [hperm.mem_iff]; exact HD.out s
      clear hown hown4 hg4 hbw hlen hperm
      go_wp2_with fail
      go_ret
      exact ⟨_, ts, rfl, by rw [HE.out]; exact O4, by have := HE.out; omega, hpw, HM.out, B4⟩
    · intro f le t c w4 cn' hkw hFs hlf hwc hra' hlt hgr hsz hen
      have hO : ∀ j, u3.ownBlock = some j → ¬ R = j := fun j hj => by have := (hown.out.lt j hj).1; omega
      have O4 := Lib.hid (hown.out.kept hgr (own_ne (fun j hj e => by cases e; exact hO _ hj rfl)))
      have B4 := Lib.hid (hbw.out.grown hgr hbw.out.size (fun j hj => by cases hj; exact hwR))
      have HCN : Hid (cn' < wr.rangeLeft M R) := by show _ < _; rw [hra.out.left_eq]; exact hlt
      have RA4 := Lib.hid hra'
      have hr4 : R + 1 ≤ w4.heap.size := by rw [hsz]; exact hws
      have hmv := HF.out f le t c hkw hFs
      have SP4 := Lib.hid (setP_take hsp.out hFs hlf hmv)
      have hk1 : us.length + 1 + cn' ≤ cnt := by omega
      clear hO hown hbw hgr hra hra' hlt hsz hsp hmv
      go_upto_region 5 with fail
      obtain ⟨V, hV⟩ : ∃ V, V = w4.heap.size := ⟨_, rfl⟩
      have P5 : Hid (Blk (w4.alloc (.cells #[.int .i64 f, .string le, .int .i64 t] 134)) V 134 #[.int .i64 f, .string le, .int .i64 t]) := by rw [hV]; exact Blk.new _ _ _
      have O5 := Lib.hid (O4.out.alloc (.cells #[.int .i64 f, .string le, .int .i64 t] 134))
      have RA5 := Lib.hid (RA4.out.kept (World.grownBy_alloc w4 (.cells #[.int .i64 f, .string le, .int .i64 t] 134) none) (by simp) (by simp))
      have B5 := Lib.hid (below_al B4.out (Nat.le_refl _) (.cells #[.int .i64 f, .string le, .int .i64 t] 134))
      have hr5 : R + 1 ≤ (w4.alloc (.cells #[.int .i64 f, .string le, .int .i64 t] 134)).heap.size := by simp; omega
      rw [← hV]
      generalize w4.alloc (.cells #[.int .i64 f, .string le, .int .i64 t] 134) = w5 at P5 O5 RA5 B5 hr5 ⊢
      have p0 := P5.out.cell 0
      have p1 := P5.out.cell 1
      have p2 := P5.out.cell 2
      simp at p0 p1 p2
      clear O4 B4 RA4 hen hr4 hV P5
      go_wp2_with (first
        | (at_builtin; refine wpList_append_lies _ rfl _ _ 27 rfl (R + 1) 73 i0 (.agg #[.int .i64 0, .string ByteArray.empty, .int .i64 0, .int .i64 0]) 4 40 Try.underlying27 ZI.out Z0.out Z1.out Z2.out rfl (by decide) _ _ _ rfl (World.ownsRow.alloc O5.out _) _ 1 1 (stepC ⟨f, le, t, c⟩) rfl rfl ?g1 ?g2 (by decide) ?g3 ?g4 ?g5 _ rfl ?_)
        | fail)
      case g1 => exact lit_news w5 #[.int .i64 f, .string le, .int .i64 t, .int .i64 c] _
      case g2 => intro u hu; simp [stepC] at hu; rcases hu with rfl | rfl | rfl | rfl <;> rfl
      case g3 => unfold maxLen; omega
      case g4 => omega
      case g5 => simp; omega
      intro g cap' w6 hown' hgrow hat hlt'
      have hR6 : ∀ j, u3.ownBlock = some j → R + 1 ≤ j := fun j hj => (O5.out.lt j hj).1
      have B6 := Lib.hid ((below_al B5.out (Nat.le_refl _) _).grown hgrow (by simp; omega) (fun j hj => by have := hR6 j hj; omega))
      have RA6 := Lib.hid ((RA5.out.kept (World.grownBy_alloc w5 _ none) (by simp) (by simp)).kept hgrow (by intro e; have := hR6 M e.symm; omega) (by intro e; have := hR6 R e.symm; omega))
      have hr6 : R + 1 ≤ w6.heap.size := by have := hgrow.size; simp at this; omega
      rw [← flatS_snoc] at hown'
      have O6 : Hid (w6.ownsRow (R + 1) 73 4 (.slice (some ⟨g, 0, none⟩) (us.length + 1) cap') (us ++ [(⟨f, le, t, c⟩ : StepD)]).length (flatS (us ++ [(⟨f, le, t, c⟩ : StepD)]))) := by rw [List.length_append]; exact hown'
      have hl6 : (us ++ [(⟨f, le, t, c⟩ : StepD)]).length + cn' ≤ cnt := by rw [List.length_append, List.length_singleton]; exact hk1
      clear hown' hgrow hat hlt' hR6 O5 B5 RA5 p0 p1 p2
      go_wp2_with fail
      go_roundw
      case rel => exact ⟨_, cn', us ++ [⟨f, le, t, c⟩], hl6, RA6, SP4, O6, B6, hr6⟩
      case measure => rw [RA6.out.left_eq]; exact HCN.out
end Go.Proofs.Ytdfnlaclggjckaa
