/- The model's copy of a matrix, and its search for the first power that is its own square. -/
import Derived.Test.YtaiplhddbmhodaaGSpec2
import Derived.Test.YtaiplhddbmhodaaCopyM
import Derived.Test.YtaiplhddbmhodaaLastOp
import Derived.Maps.AppendAt
import Derived.Test.YtaiplhddbmhodaaGPow
namespace Go.Proofs.Ytaiplhddbmhodaa
open Go.RowKit
set_option maxHeartbeats 2000000
set_option maxRecDepth 100000
set_option linter.unusedVariables false

theorem news_int {w : World} {B : Nat} {a : Addr} {zs : List Int} (h : Ints w B (some a) zs) : ∀ j u, (zs.map (Value.int .i64))[j]? = some u → w.cell? (a.add j) = some u := by
  intro j u hu
  rw [List.getElem?_map] at hu
  have hj : j < zs.length := by
    rcases Nat.lt_or_ge j zs.length with h' | h'
    · exact h'
    · rw [List.getElem?_eq_none h'] at hu; cases hu
  obtain ⟨b, off, z, he, _, hc, _, hz⟩ := h.at_ (k := j) hj
  cases he
  rw [List.getElem?_eq_getElem hj] at hu
  simp only [Option.map_some, Option.some.injEq] at hu
  subst hu
  rw [List.getD_eq_getElem?_getD, List.getElem?_eq_getElem hj] at hz
  have e : (⟨b, off, none⟩ : Addr).add j = ⟨b, off + j, none⟩ := by
    by_cases h0 : j = 0
    · subst h0; rfl
    · simp [Addr.add, h0]
  rw [e, hc]
  simp at hz
  rw [hz]

theorem l13Own_any (m : Int) (A : Option Addr) (cap n : Nat) (zs : List Int) (w : World) (hn : zs.length = n) (hz : Ints w w.heap.size A zs) (h1 : 1 ≤ n) (hs : n ≤ 1048576) :
    Calls Try.prog 62 #[.agg #[.int .i64 m, .slice A n cap]] w fun e w' => ∃ v, e = .returned v ∧ MatOwn w' w.heap.size v m zs ∧ Below w.heap.size w w' := by
  obtain ⟨i0, hi, hz0, hz1, hz2⟩ := info_parts info_int
  have Z0 := Lib.hid hz0
  have Z1 := Lib.hid hz1
  have Z2 := Lib.hid hz2
  have ZI := Lib.hid hi
  obtain ⟨b, off, z, rfl, _, _, _, _⟩ := hz.at_ (k := 0) (by omega)
  have OL := Lib.hid (show ((((w.alloc (.cells #[.int .i64 m, .slice (some ⟨b, off, none⟩) n cap] 25)).alloc (.cells #[.int .i64 0, .slice none 0 0] 25)).alloc (.cells #[] 3))).ownsRow (w.heap.size + 1 + 1) 3 1 (.slice (some ⟨w.heap.size + 1 + 1, 0, none⟩) 0 0) 0 [] by
    have h : (((w.alloc (.cells #[.int .i64 m, .slice (some ⟨b, off, none⟩) n cap] 25)).alloc (.cells #[.int .i64 0, .slice none 0 0] 25)).alloc (.cells #[] 3)).ownsRow ((w.alloc (.cells #[.int .i64 m, .slice (some ⟨b, off, none⟩) n cap] 25)).alloc (.cells #[.int .i64 0, .slice none 0 0] 25)).heap.size 3 1 (.slice (some ⟨((w.alloc (.cells #[.int .i64 m, .slice (some ⟨b, off, none⟩) n cap] 25)).alloc (.cells #[.int .i64 0, .slice none 0 0] 25)).heap.size, 0, none⟩) 0 0) 0 [] := World.ownsRow_lit ((w.alloc (.cells #[.int .i64 m, .slice (some ⟨b, off, none⟩) n cap] 25)).alloc (.cells #[.int .i64 0, .slice none 0 0] 25)) #[] 0 (Nat.le_refl _) (Nat.zero_le _) rfl
    simpa using h)
  have HZ := Lib.hid (show Ints ((((w.alloc (.cells #[.int .i64 m, .slice (some ⟨b, off, none⟩) n cap] 25)).alloc (.cells #[.int .i64 0, .slice none 0 0] 25)).alloc (.cells #[] 3))) ((((w.alloc (.cells #[.int .i64 m, .slice (some ⟨b, off, none⟩) n cap] 25)).alloc (.cells #[.int .i64 0, .slice none 0 0] 25)).alloc (.cells #[] 3))).heap.size (some ⟨b, off, none⟩) zs from ints_al (ints_al (ints_al hz _) _) _)
  have P3 := Lib.hid (show Blk ((((w.alloc (.cells #[.int .i64 m, .slice (some ⟨b, off, none⟩) n cap] 25)).alloc (.cells #[.int .i64 0, .slice none 0 0] 25)).alloc (.cells #[] 3))) w.heap.size 25 #[.int .i64 m, .slice (some ⟨b, off, none⟩) n cap] from ((Blk.new _ _ _).alloc _).alloc _)
  have R3 := Lib.hid (show Blk ((((w.alloc (.cells #[.int .i64 m, .slice (some ⟨b, off, none⟩) n cap] 25)).alloc (.cells #[.int .i64 0, .slice none 0 0] 25)).alloc (.cells #[] 3))) (w.heap.size + 1) 25 #[.int .i64 0, .slice none 0 0] from (blk_new (by simp)).alloc _)
  have B3 := Lib.hid (show Below w.heap.size w ((((w.alloc (.cells #[.int .i64 m, .slice (some ⟨b, off, none⟩) n cap] 25)).alloc (.cells #[.int .i64 0, .slice none 0 0] 25)).alloc (.cells #[] 3))) from below_a3 _ _ _ _)
  have S3 : Hid (((((w.alloc (.cells #[.int .i64 m, .slice (some ⟨b, off, none⟩) n cap] 25)).alloc (.cells #[.int .i64 0, .slice none 0 0] 25)).alloc (.cells #[] 3))).heap.size = w.heap.size + 1 + 1 + 1) := by show _ = _; simp
  clear hz0 hz1 hz2 hi hz
  go_enter Try.func62, Try.ntmps62
  go_wp2_with (at_builtin; refine wpList_append_own _ rfl _ _ 23 rfl (w.heap.size + 1 + 1) 3 i0 (.int .i64 0) 1 8 Try.underlying23 ZI.out Z0.out Z1.out Z2.out rfl (by decide) _ _ _ rfl OL.out ⟨b, off, none⟩ n cap (zs.map (Value.int .i64)) rfl ?c0 ?c1 ?c2 ?c3 ?c4 ?c5 ?_)
  case c0 => simp [hn]
  case c1 => exact news_int HZ.out
  case c2 => intro u hu; simp at hu; obtain ⟨x, _, rfl⟩ := hu; rfl
  case c3 => unfold maxLen; omega
  case c4 => omega
  case c5 => simp
  · intro v' w4 ho4 hg4 _
    have hg4' : (((w.alloc (.cells #[.int .i64 m, .slice (some ⟨b, off, none⟩) n cap] 25)).alloc (.cells #[.int .i64 0, .slice none 0 0] 25)).alloc (.cells #[] 3)).grownBy w4 (some (w.heap.size + 1 + 1)) := hg4
    obtain ⟨A4, cap4, rfl⟩ := slice_own (vs := zs) (by rw [hn]; exact ho4) (by rw [hn]; unfold maxLen; omega)
    rw [hn] at ho4 ⊢
    have P4 := Lib.hid (P3.out.grown hg4' (by omega))
    have R4 := Lib.hid (R3.out.grown hg4' (by omega))
    have B4 := Lib.hid (B3.out.grown hg4' (by have := S3.out; omega) (fun j hj => by cases hj; omega))
    have O4 := Lib.hid ho4
    have L4 : Hid (w.heap.size + 1 < w4.heap.size) := Blk.lt R4.out
    clear ho4 hg4 hg4' OL HZ P3 R3 B3 S3
    obtain ⟨a0, a1⟩ := two_cells P4.out
    obtain ⟨f0, f1⟩ := two_frozen P4.out
    obtain ⟨d0, d1⟩ := two_cells R4.out
    obtain ⟨e0, e1⟩ := two_frozen R4.out
    go_wp2_with fail
    have B5 := Lib.hid (B4.out.setCell (p := ⟨w.heap.size, 1, none⟩) (by simp) (.slice A4 n cap4))
    have O5 := Lib.hid (own_far O4.out (grow_set w4 w.heap.size 1 (.slice A4 n cap4)) (by omega))
    have R5 := Lib.hid (R4.out.other w.heap.size 1 (.slice A4 n cap4) (by omega))
    have HF := mat_fin_n (w := w) (m := m) hn R5.out O5.out (by omega) (by omega) B5.out (by omega)
    refine bodyPost_ret (results_1 rfl (gives_mat (g := w.heap.size + 1) rfl HF.1)) rfl ?_
    exact ⟨_, rfl, HF.2⟩
end Go.Proofs.Ytaiplhddbmhodaa
