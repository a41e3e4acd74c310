/- FnExactFreeWords: for every argument that can be read the law returns true, and each argument reads as it did. No condition. -/
import Derived.Test.YtlfffoglldobeaaFreeWLaw
import Derived.Test.YtlfffoglldobeaaRows
import Derived.WalkKit
import Derived.ProofKit
import Derived.OpenShut
import Derived.ShutString
import Derived.ChangeOld
import Derived.Below
import Derived.Lib.SmallJoins
namespace Go.Proofs.Ytlfffoglldobeaa.fnExactFreeWords
open Go.ChangeShapes Go.WideShapes Go.ChangeAt Go.RowKit
open Go.ChangeMaps (open_string shut_string)
set_option linter.unusedVariables false

theorem own : ownKnob Try.prog.godebug = none := by kernel_rfl
theorem laidOut : laidOutB Try.prog = true := by kernel_rfl

set_option maxRecDepth 100000 in
theorem lifted (os : Os) (started : os.Started) (H : Type) (enc : TypeId × Value → H) :
    ReturnsInHanded {} Try.checked os 3 .any (Rows.fnExactFreeWordsSpec.pre6 enc Try.prog Try.f3 Rows.fnExactFreeWordsRow.domain false) (Rows.fnExactFreeWordsSpec.post enc Try.prog Try.f3 false true false false) := by
  refine returnsInHanded_of_change (C := Try.checked) own started (by kernel_rfl) Try.func3
    (ChangeSpec.witness6 (enc := enc) (C := Try.checked) false ⟨#[], #[.agg #[.int .i64 0, .slice none 0 0, .slice none 0 0, .slice none 0 0], .int .i64 0], []⟩ 8 (by kernel_rfl) (by kernel_rfl) (by kernel_rfl) (by kernel_rfl)) ?_
  intro W base args ds gs before hval0 hW hcnd _
  have hval : ∀ (j : Nat) t v, Try.f3.params[j]? = some t → args[j]? = some v → Value.okWide Try.prog W .any base t v := hval0
  have hW' := hW
  obtain ⟨p, q, hA0, hV, rfl, hfz, hnd⟩ := hW
  have hA : DataW.TrodAll enc Try.prog W 0 (fun _ => true) true Try.f3.params.toList args.toList ds p := hA0
  rw [Try.params3] at hA hval
  obtain ⟨v0, vs0, d0, ds0, p0, q0, hargs, rfl, rfl, h0, r0⟩ := trodAll_cons hA
  obtain ⟨v1, vs1, d1, ds1, p1, q1, rfl, rfl, rfl, h1, r1⟩ := trodAll_cons r0
  obtain ⟨rfl, rfl, rfl⟩ := trodAll_nil r1
  obtain rfl : args = #[v0, v1] := by cases args; simp_all
  obtain ⟨rfl, rfl⟩ := trodVars_none hV
  have k0 := h0
  have lt0 : ∀ x ∈ p0, x.block < W.heap.size := by obtain ⟨m, hm⟩ := k0; exact DataW.trod_lt m _ _ _ hm
  obtain ⟨u0a, u0b, u0c, u0d, y0a, y0b, y0c, y0d, n0, rfl, rfl, rfl, hy0a, hy0b, hy0c, hy0d⟩ := Joins.open_agg4 Try.underlying25 (by kernel_rfl) (show Try.prog.cellsOf 25 = 4 by kernel_rfl) (hval 0 25 v0 rfl rfl) h0
  obtain ⟨a0, e0a, rfl, wa0⟩ := DataW.trod_int Try.underlying3 hy0a
  obtain ⟨A0b, len0b, cap0b, e0b⟩ := Joins.slice_form Try.underlying22 hy0b
  obtain ⟨A0c, len0c, cap0c, e0c⟩ := Joins.slice_form Try.underlying22 hy0c
  obtain ⟨A0d, len0d, cap0d, e0d⟩ := Joins.slice_form Try.underlying23 hy0d
  obtain ⟨z0b, hl0b, c0b, w0b, wf0b⟩ := irow_of_trod (cap := cap0b) Try.underlying22 Try.underlying3 (by kernel_rfl) hy0b e0b
  obtain ⟨z0c, hl0c, c0c, w0c, wf0c⟩ := irow_of_trod (cap := cap0c) Try.underlying22 Try.underlying3 (by kernel_rfl) hy0c e0c
  obtain ⟨z0d, hl0d, c0d, w0d⟩ := srow_of_trod (cap := cap0d) Try.underlying23 Try.underlying65 (by kernel_rfl) (by kernel_rfl) Try.underlying3 Try.underlying9 Try.underlying3 Try.underlying3 hy0d e0d
  simp at e0a e0b e0c e0d
  subst e0a e0b e0c e0d
  subst hl0b hl0c hl0d
  obtain ⟨a1, rfl, rfl, rfl, w1⟩ := open_int Try.underlying3 (hval 1 3 v1 rfl rfl) h1
  clear hA0 hval0
  refine (FnExactFreeWords_walk a0 A0b cap0b z0b A0c cap0c z0c A0d cap0d z0d a1 w1 W w0b w0c w0d).mono fun e W' ⟨he, bel⟩ => ?_
  subst he
  exact ⟨_, rfl, _, _, _, [], _, [], hW', trodAll_mk1 (shut_bool Try.underlying4 _), (trodAll_cons_mk (Below.trod laidOut (by kernel_rfl) (of_decide_eq_true (by kernel_rfl)) k0 bel lt0) (trodAll_cons_mk (shut_int Try.underlying3 w1) trodAll_mk0)), rfl, bel.frame _, fun h => by cases h⟩

theorem over : Rows.fnExactFreeWordsRow.holds Try.pinned (OpenSpec.ofChange Rows.fnExactFreeWordsSpec) :=
  OpenClaim.holds_of_wide 3 Try.f3 rfl rfl rfl rfl rfl rfl rfl ⟨rfl, rfl, rfl, rfl, rfl⟩ rfl rfl rfl rfl rfl (by kernel_rfl) Try.func3 (by kernel_rfl)
    (of_decide_eq_true (by kernel_rfl)) (by unfold Func.isWrapper; first | (rw [if_pos (by decide +kernel)]; kernel_rfl) | (rw [if_neg (by decide +kernel)]; exact ⟨rfl, rfl⟩))
    (fun os started H enc _ => lifted os started H enc)

theorem proved : Rows.FnExactFreeWordsSaid := over
#print axioms proved
end Go.Proofs.Ytlfffoglldobeaa.fnExactFreeWords
