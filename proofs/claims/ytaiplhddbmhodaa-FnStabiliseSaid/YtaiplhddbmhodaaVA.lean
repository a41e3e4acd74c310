/- Matrices in variables through a walk of many calls, the slice's name kept; what valid arguments give. No condition. -/
import Derived.Test.YtaiplhddbmhodaaMatAt
import Derived.Test.YtaiplhddbmhodaaDrawQ
namespace Go.Proofs.Ytaiplhddbmhodaa
open Go.RowKit
set_option maxHeartbeats 1000000
set_option maxRecDepth 100000
set_option linter.unusedVariables false

theorem mv_of {n : Nat} {zs : List Int} (h : matOk (n : Int) zs = true) : MV n zs := by
  obtain ⟨n', hn, mv⟩ := matOk_t h
  have e : n = n' := by omega
  subst e; exact mv
theorem two_ok_v {n : Nat} {zs ys : List Int} (ha : MV n zs) (hb : MV n ys) : twoOk (n : Int) zs (n : Int) ys = true := by unfold twoOk; rw [matOk_mk ha, matOk_mk hb]; simp
theorem iUnit_v (n : Nat) (k : Int) (rs : List Int) (w : World) (hk : k = (n : Int)) (h1 : 1 ≤ n) (h2 : n ≤ 4) (hr : unitL n = rs) :
    Calls Try.prog 11 #[.int .i64 k] w fun e w' => REnd n rs true w e w' := by
  subst hk
  have e : unitR (n : Int) = some ((n : Int), rs) := by unfold unitR; rw [if_pos (by omega), Int.toNat_natCast, hr]
  exact iUnit_r _ _ _ _ _ (by rw [e]; rfl) (by rw [e]; rfl) (by rw [e]; rfl)
theorem Drawn2M.form {w w' : World} {e : Ending} (h : Drawn2M w e w') : ∃ (A B : Option Addr) (cap cap' : Nat) (m : Int) (N : Nat) (us vs : List Int), e = .returned (.tuple #[.agg #[.int .i64 m, .slice A us.length cap], .agg #[.int .i64 N, .slice B vs.length cap']]) ∧ Hid (OwnI w' A cap us) ∧ us.length ≤ 1048577 ∧ Hid (OwnI w' B cap' vs) ∧ vs.length ≤ 1048577 ∧ Hid (MV N vs) ∧ Hid (Below w.heap.size w w') := by
  obtain ⟨_, _, m, N, us, vs, rfl, ⟨x, rfl, ho, hl⟩, h17, ⟨y, rfl, ho', hl'⟩, mv, hb⟩ := h
  obtain ⟨A, cap, rfl, _, _⟩ := own_ints ho (by unfold maxLen; omega)
  obtain ⟨B, cap', rfl, _, _⟩ := own_ints ho' (by unfold maxLen; omega)
  exact ⟨A, B, cap, cap', m, N, us, vs, rfl, own_base ho (Nat.zero_le _), hl, own_base ho' (Nat.zero_le _), hl', mv, hb⟩
end Go.Proofs.Ytaiplhddbmhodaa
