/- Matrices in variables through a walk of many calls, the slice's name kept; what valid arguments give. No condition. -/
import Derived.Test.YtidahhfpnhmkgabMatAt
import Derived.Test.YtidahhfpnhmkgabDrawQ
namespace Go.Proofs.Ytidahhfpnhmkgab
open Go.RowKit
set_option maxHeartbeats 1000000
set_option maxRecDepth 100000
set_option linter.unusedVariables false

abbrev MO (A : Option Addr) (cap : Nat) (m : Int) (zs : List Int) : Obj := .cells #[.int .i64 m, .slice A zs.length cap] 25
/-- The variable in block g holds the matrix of size m whose numbers lie behind this slice. -/
def VA (w : World) (g : Nat) (A : Option Addr) (cap : Nat) (m : Int) (zs : List Int) : Prop :=
  Blk w g 25 #[.int .i64 m, .slice A zs.length cap] ∧ OwnI w A cap zs ∧ zs.length ≤ 1048577
theorem VA.below {w w' : World} {g cap : Nat} {A : Option Addr} {m : Int} {zs : List Int} (h : VA w g A cap m zs) (hb : Below w.heap.size w w') : VA w' g A cap m zs := ⟨blk_b h.1 hb, own_under h.2.1 hb, h.2.2⟩
theorem VA.al {w : World} {g cap : Nat} {A : Option Addr} {m : Int} {zs : List Int} (h : VA w g A cap m zs) (o : Obj) : VA (w.alloc o) g A cap m zs := h.below (below_a1 w o)
theorem VA.lt {w : World} {g cap : Nat} {A : Option Addr} {m : Int} {zs : List Int} (h : VA w g A cap m zs) : g < w.heap.size := Blk.lt h.1
theorem VA.cells {w : World} {g cap : Nat} {A : Option Addr} {m : Int} {zs : List Int} (h : VA w g A cap m zs) : w.cell? ⟨g, 0, none⟩ = some (.int .i64 m) ∧ w.cell? ⟨g, 1, none⟩ = some (.slice A zs.length cap) := two_cells h.1
theorem VA.new {w : World} {g cap : Nat} {A : Option Addr} {m : Int} {zs : List Int} (hg : g = w.heap.size) (ho : OwnI w A cap zs) (hl : zs.length ≤ 1048577) : VA (w.alloc (MO A cap m zs)) g A cap m zs := by
  subst hg; exact ⟨Blk.new _ _ _, ho.alloc _, hl⟩
theorem own_set {w : World} {k i cap : Nat} {A : Option Addr} {zs : List Int} {cs : Array Value} (ho : OwnI w A cap zs) (hk : Blk w k 25 cs) (v : Value) : OwnI (w.setCell ⟨k, i, none⟩ v) A cap zs := by
  refine ho.kept (grow_set w k i v) ?_
  have := own_other ho hk (by decide)
  rcases h0 : (Value.slice A zs.length cap).ownBlock with _ | j
  · exact Or.inl rfl
  · right; intro he; exact this (by rw [h0]; exact he.symm)
theorem VA.set2 {w : World} {g k cap : Nat} {A : Option Addr} {m : Int} {zs : List Int} {u0 u1 : Value} (h : VA w g A cap m zs) (hk : Blk w k 25 #[u0, u1]) (hne : ¬ k = g) (v0 v1 : Value) : VA ((w.setCell ⟨k, 0, none⟩ v0).setCell ⟨k, 1, none⟩ v1) g A cap m zs :=
  ⟨(h.1.other k 0 v0 hne).other k 1 v1 hne, own_set (own_set h.2.1 hk v0) (hk.set_ 0 v0) v1, h.2.2⟩
theorem VA.put {w : World} {k cap : Nat} {A : Option Addr} {m : Int} {zs : List Int} {u0 u1 : Value} (ho : OwnI w A cap zs) (hl : zs.length ≤ 1048577) (hk : Blk w k 25 #[u0, u1]) : VA ((w.setCell ⟨k, 0, none⟩ (.int .i64 m)).setCell ⟨k, 1, none⟩ (.slice A zs.length cap)) k A cap m zs :=
  ⟨(hk.set_ 0 _).set_ 1 _, own_set (own_set ho hk _) (hk.set_ 0 _) _, hl⟩

theorem mv_of {n : Nat} {zs : List Int} (h : matOk (n : Int) zs = true) : MV n zs := by
  obtain ⟨n', hn, mv⟩ := matOk_t h
  have e : n = n' := by omega
  subst e; exact mv
theorem two_ok_v {n : Nat} {zs ys : List Int} (ha : MV n zs) (hb : MV n ys) : twoOk (n : Int) zs (n : Int) ys = true := by unfold twoOk; rw [matOk_mk ha, matOk_mk hb]; simp
theorem iMul_v (n : Nat) (k k' : Int) (zs ys rs : List Int) (A A' : Option Addr) (cap cap' : Nat) (w : World) (hk : k = (n : Int)) (hk' : k' = (n : Int)) (ha : MV n zs) (hb : MV n ys) (hr : mulL n zs ys = rs) (hz : OwnI w A cap zs) (hy : OwnI w A' cap' ys) (hl : zs.length ≤ 1048577) (hl' : ys.length ≤ 1048577) :
    Calls Try.prog 10 #[.agg #[.int .i64 k, .slice A zs.length cap], .agg #[.int .i64 k', .slice A' ys.length cap']] w fun e w' => REnd n rs true w e w' := by
  subst hk
  subst hk'
  have e : mulR (n : Int) zs (n : Int) ys = some ((n : Int), rs) := by unfold mulR; rw [if_pos (two_ok_v ha hb), Int.toNat_natCast, hr]
  exact iMul_r _ _ _ _ _ _ _ _ _ _ _ _ hz hy hl hl' (by rw [e]; rfl) (by rw [e]; rfl) (by rw [e]; rfl)
theorem iMin_v (n : Nat) (k k' : Int) (zs ys rs : List Int) (A A' : Option Addr) (cap cap' : Nat) (w : World) (hk : k = (n : Int)) (hk' : k' = (n : Int)) (ha : MV n zs) (hb : MV n ys) (hr : minL n zs ys = rs) (hz : OwnI w A cap zs) (hy : OwnI w A' cap' ys) (hl : zs.length ≤ 1048577) (hl' : ys.length ≤ 1048577) :
    Calls Try.prog 17 #[.agg #[.int .i64 k, .slice A zs.length cap], .agg #[.int .i64 k', .slice A' ys.length cap']] w fun e w' => REnd n rs true w e w' := by
  subst hk
  subst hk'
  have e : minR (n : Int) zs (n : Int) ys = some ((n : Int), rs) := by unfold minR; rw [if_pos (two_ok_v ha hb), Int.toNat_natCast, hr]
  exact iMin_r _ _ _ _ _ _ _ _ _ _ _ _ hz hy hl hl' (by rw [e]; rfl) (by rw [e]; rfl) (by rw [e]; rfl)
theorem iUnit_v (n : Nat) (k : Int) (rs : List Int) (w : World) (hk : k = (n : Int)) (h1 : 1 ≤ n) (h2 : n ≤ 4) (hr : unitL n = rs) :
    Calls Try.prog 15 #[.int .i64 k] w fun e w' => REnd n rs true w e w' := by
  subst hk
  have e : unitR (n : Int) = some ((n : Int), rs) := by unfold unitR; rw [if_pos (by omega), Int.toNat_natCast, hr]
  exact iUnit_r _ _ _ _ _ (by rw [e]; rfl) (by rw [e]; rfl) (by rw [e]; rfl)
theorem iTurn_v (n : Nat) (k : Int) (zs rs : List Int) (A : Option Addr) (cap : Nat) (w : World) (hk : k = (n : Int)) (ha : MV n zs) (hr : turnL n zs = rs) (hz : OwnI w A cap zs) (hl : zs.length ≤ 1048577) :
    Calls Try.prog 16 #[.agg #[.int .i64 k, .slice A zs.length cap]] w fun e w' => REnd n rs true w e w' := by
  subst hk
  have e : turnR (n : Int) zs = some ((n : Int), rs) := by unfold turnR; rw [if_pos (matOk_mk ha), Int.toNat_natCast, hr]
  exact iTurn_r _ _ _ _ _ _ _ _ hz hl (by rw [e]; rfl) (by rw [e]; rfl) (by rw [e]; rfl)

theorem Drawn2M.form {w w' : World} {e : Ending} (h : Drawn2M w e w') : ∃ (A B : Option Addr) (cap cap' : Nat) (m : Int) (N : Nat) (us vs : List Int), e = .returned (.tuple #[.agg #[.int .i64 m, .slice A us.length cap], .agg #[.int .i64 N, .slice B vs.length cap']]) ∧ Hid (OwnI w' A cap us) ∧ us.length ≤ 1048577 ∧ Hid (OwnI w' B cap' vs) ∧ vs.length ≤ 1048577 ∧ Hid (MV N vs) ∧ Hid (Below w.heap.size w w') := by
  obtain ⟨_, _, m, N, us, vs, rfl, ⟨x, rfl, ho, hl⟩, h17, ⟨y, rfl, ho', hl'⟩, mv, hb⟩ := h
  obtain ⟨A, cap, rfl, _, _⟩ := own_ints ho (by unfold maxLen; omega)
  obtain ⟨B, cap', rfl, _, _⟩ := own_ints ho' (by unfold maxLen; omega)
  exact ⟨A, B, cap, cap', m, N, us, vs, rfl, own_base ho (Nat.zero_le _), hl, own_base ho' (Nat.zero_le _), hl', mv, hb⟩
end Go.Proofs.Ytidahhfpnhmkgab
