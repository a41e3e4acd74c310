/- Matrices of grades in variables through a walk of many calls. -/
import Derived.Test.YtaiplhddbmhodaaMatAt
import Derived.Test.YtaiplhddbmhodaaVA
import Derived.Test.YtaiplhddbmhodaaGDrawI
import Derived.Test.YtaiplhddbmhodaaGSpec2
namespace Go.Proofs.Ytaiplhddbmhodaa
open Go.RowKit
set_option maxHeartbeats 1000000
set_option maxRecDepth 100000
set_option linter.unusedVariables false

theorem gv_of {n : Nat} {zs : List Int} (h : gradeOk (n : Int) zs = true) : GV n zs := by
  obtain ⟨n', hn, gv⟩ := gradeOk_t h
  have e : n = n' := by omega
  subst e; exact gv
theorem iMulG_r (m m' mr : Int) (zs ys rs : List Int) (ok : Bool) (A A' : Option Addr) (cap cap' : Nat) (w : World) (hz : OwnI w A cap zs) (hy : OwnI w A' cap' ys) (hl : zs.length ≤ 1048577) (hl' : ys.length ≤ 1048577) (h1 : ((gmulR m zs m' ys).getD (0, [])).1 = mr) (h2 : ((gmulR m zs m' ys).getD (0, [])).2 = rs) (h3 : (gmulR m zs m' ys).isSome = ok) :
    Calls Try.prog 6 #[.agg #[.int .i64 m, .slice A zs.length cap], .agg #[.int .i64 m', .slice A' ys.length cap']] w fun e w' => REnd mr rs ok w e w' :=
  (iMulGrades_any m m' A A' cap cap' zs ys w (hz.ints hl) (hy.ints hl')).mono fun e w' h => h.form h1 h2 h3
theorem sMulG_r (m m' mr : Int) (zs ys rs : List Int) (ok : Bool) (A A' : Option Addr) (cap cap' : Nat) (w : World) (hz : OwnI w A cap zs) (hy : OwnI w A' cap' ys) (hl : zs.length ≤ 1048577) (hl' : ys.length ≤ 1048577) (h1 : ((gmulR m zs m' ys).getD (0, [])).1 = mr) (h2 : ((gmulR m zs m' ys).getD (0, [])).2 = rs) (h3 : (gmulR m zs m' ys).isSome = ok) :
    Calls Try.prog 7 #[.agg #[.int .i64 m, .slice A zs.length cap], .agg #[.int .i64 m', .slice A' ys.length cap']] w fun e w' => REnd mr rs ok w e w' :=
  (sMulGrades_any m m' A A' cap cap' zs ys w (hz.ints hl) (hy.ints hl')).mono fun e w' h => h.form h1 h2 h3
theorem iMulG_v (n : Nat) (k k' : Int) (zs ys rs : List Int) (A A' : Option Addr) (cap cap' : Nat) (w : World) (hk : k = (n : Int)) (hk' : k' = (n : Int)) (ha : GV n zs) (hb : GV n ys) (hr : gmulL n zs ys = rs) (hz : OwnI w A cap zs) (hy : OwnI w A' cap' ys) (hl : zs.length ≤ 1048577) (hl' : ys.length ≤ 1048577) :
    Calls Try.prog 6 #[.agg #[.int .i64 k, .slice A zs.length cap], .agg #[.int .i64 k', .slice A' ys.length cap']] w fun e w' => REnd n rs true w e w' := by
  subst hk
  subst hk'
  have e : gmulR (n : Int) zs (n : Int) ys = some ((n : Int), rs) := by rw [gtwo_4 (gradeOk_mk ha) (gradeOk_mk hb), hr]
  exact iMulG_r _ _ _ _ _ _ _ _ _ _ _ _ hz hy hl hl' (by rw [e]; rfl) (by rw [e]; rfl) (by rw [e]; rfl)
theorem iGValid_r (m : Int) (zs : List Int) (ok : Bool) (A : Option Addr) (cap : Nat) (w : World) (hz : OwnI w A cap zs) (hl : zs.length ≤ 1048577) (h1 : gradeOk m zs = ok) :
    Calls Try.prog 10 #[.agg #[.int .i64 m, .slice A zs.length cap]] w fun e w' => e = .returned (.bool ok) ∧ Hid (Below w.heap.size w w') :=
  (iGradesValid_is m A cap zs ok w (hz.ints hl) h1).mono fun e w' h => h
theorem grL_unit (n : Nat) : grL (unitL n) = gunitL n := by
  unfold grL unitL gunitL ofF
  rw [List.map_map]
  apply List.map_congr_left
  intro p _
  show gr (unitF (p / n) (p % n)) = gunitF (p / n) (p % n)
  unfold unitF gunitF
  split <;> rfl
theorem iGOfUnit_v (n : Nat) (k : Int) (zs rs : List Int) (A : Option Addr) (cap : Nat) (w : World) (hk : k = (n : Int)) (hm : MV n zs) (hr : grL zs = rs) (hz : OwnI w A cap zs) (hl : zs.length ≤ 1048577) :
    Calls Try.prog 12 #[.agg #[.int .i64 k, .slice A zs.length cap]] w fun e w' => REnd n rs true w e w' := by
  subst hk
  have e : gofR (n : Int) zs = some ((n : Int), rs) := by unfold gofR; rw [if_pos (matOk_mk hm), hr]
  exact (iGradesOf_any _ A cap zs w (hz.ints hl)).mono fun e' w' h => h.form (by rw [e]; rfl) (by rw [e]; rfl) (by rw [e]; rfl)

theorem Drawn2G.form {w w' : World} {e : Ending} (h : Drawn2G w e w') : ∃ (A B : Option Addr) (cap cap' : Nat) (m : Int) (N : Nat) (us vs : List Int), e = .returned (.tuple #[.agg #[.int .i64 m, .slice A us.length cap], .agg #[.int .i64 N, .slice B vs.length cap']]) ∧ Hid (OwnI w' A cap us) ∧ us.length ≤ 1048577 ∧ Hid (OwnI w' B cap' vs) ∧ vs.length ≤ 1048577 ∧ Hid (GV N vs) ∧ Hid (Below w.heap.size w w') := by
  obtain ⟨_, _, m, N, us, vs, rfl, ⟨x, rfl, ho, hl⟩, h17, ⟨y, rfl, ho', hl'⟩, mv, hb⟩ := h
  obtain ⟨A, cap, rfl, _, _⟩ := own_ints ho (by unfold maxLen; omega)
  obtain ⟨B, cap', rfl, _, _⟩ := own_ints ho' (by unfold maxLen; omega)
  exact ⟨A, B, cap, cap', m, N, us, vs, rfl, own_base ho (Nat.zero_le _), hl, own_base ho' (Nat.zero_le _), hl', mv, hb⟩
end Go.Proofs.Ytaiplhddbmhodaa
