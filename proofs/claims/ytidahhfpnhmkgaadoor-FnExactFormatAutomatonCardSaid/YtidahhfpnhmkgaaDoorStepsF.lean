/- Texts of steps, the program's and the model's: the same bytes; nothing that was there changes. Condition: numbers from 0 to 9, letters of one byte. -/
import Derived.Test.YtidahhfpnhmkgaaDoorNumsF
import Derived.Test.YtidahhfpnhmkgaaDoorAutS
import Derived.Test.YtidahhfpnhmkgaaDoorLastOp
import Derived.IntWalk
import Derived.Deep.DeepCutAuto
namespace Go.Proofs.YtidahhfpnhmkgaaDoor
open Go.RowKit
set_option maxHeartbeats 4000000
set_option maxRecDepth 100000
set_option linter.unusedVariables false

/-- The bytes of the text of a step. -/
def stepB (s : StepD) : ByteArray := ((((⟨(digF s.fr).toArray⟩ ++ s.le) ++ ⟨(digF s.to_).toArray⟩) ++ ⟨#[58]⟩) ++ ⟨(digF s.co).toArray⟩)
def stepT (s : StepD) : List UInt8 := (stepB s).data.toList
def stepsT (ss : List StepD) : List UInt8 := Lib.join (ss.map stepT) [32]
/-- Numbers of one digit and letters of one byte. -/
def ShortS (s : StepD) : Prop := (0 ≤ s.fr ∧ s.fr < 10) ∧ (0 ≤ s.to_ ∧ s.to_ < 10) ∧ (0 ≤ s.co ∧ s.co < 10) ∧ s.le.size = 1
theorem stepB_size {s : StepD} (h : ShortS s) : (stepB s).size = 5 := by
  have h1 := digF_len h.1
  have h2 := digF_len h.2.1
  have h3 := digF_len h.2.2.1
  have h4 := h.2.2.2
  unfold stepB
  rw [ByteArray.size_append, ByteArray.size_append, ByteArray.size_append, ByteArray.size_append]
  show (digF s.fr).toArray.size + s.le.size + (digF s.to_).toArray.size + 1 + (digF s.co).toArray.size = 5
  simp; omega
theorem stepT_len {s : StepD} (h : ShortS s) : (stepT s).length = 5 := by
  have := stepB_size h
  unfold stepT
  show (stepB s).data.toList.length = 5
  rw [Array.length_toList]; exact this
theorem stake_next {ss : List StepD} {k : Nat} {s : StepD} (hk : k < ss.length) (hg : ss.getD k default = s) : ss.take (k + 1) = ss.take k ++ [s] := by
  rw [List.take_succ_eq_append_getElem hk]
  rw [List.getD_eq_getElem?_getD, List.getElem?_eq_getElem hk] at hg
  rw [← hg]; rfl

theorem stepsI_any (A : Option Addr) (cap : Nat) (ss : List StepD) (w : World) (hz : SRow w w.heap.size A ss) (hlen : ss.length ≤ 1048576) (hd : ∀ s ∈ ss, ShortS s) :
    Calls Tryd.prog 24 #[.slice A ss.length cap] w fun e w' => FmtEnd (stepsT ss) w e w' := by
  have hl := hz.1
  obtain ⟨i0, hi, hz0, hz1, hz2⟩ := info_parts info_str
  have hb2 : i0.bytes * ss.length ≤ 281474976710656 := by rw [hz2]; omega
  have Z0 := Lib.hid hz0
  have Z1 := Lib.hid hz1
  have ZI := Lib.hid hi
  have HM := Lib.hid (show ss.length ≤ maxLen by unfold maxLen; omega)
  have HB2 := Lib.hid hb2
  have HD := Lib.hid hd
  have HS := Lib.hid hz
  clear hz0 hz1 hz2 hi hb2 hd hz
  go_enter Tryd.func24, Tryd.ntmps24
  go_wp2_with (at_make; refine wpList_make_full _ rfl _ _ 48 rfl w.heap.size 9 i0 (.string ByteArray.empty) 1 Tryd.underlying48 ZI.out Z0.out Z1.out _ _ _ _ ss.length rfl rfl rfl rfl HB2.out HM.out (Nat.le_refl _) ?_; intro w1 hown hgr)
  have hb1 : Below w.heap.size w w1 := (Below.refl _ _).grown hgr (Nat.le_refl _) (fun k hk => by cases hk)
  have HOWN := Lib.hid hown
  clear hown hgr
  go_loopw [11] (fun i wr => ∃ (k : Nat) (cs : List Value), k ≤ ss.length ∧ i = .int .i64 k ∧ Hid (wr.ownsRow w.heap.size 9 1 (.slice (some ⟨w.heap.size, 0, none⟩) ss.length ss.length) ss.length cs) ∧ Hid (cs.take k = (ss.take k).map (fun s => Value.string (stepB s))) ∧ Hid (Below w.heap.size w wr)) (fun i _ => ss.length - (intOf i).toNat)
  case atStart => exact ⟨0, _, Nat.zero_le _, rfl, HOWN.out, rfl, hb1⟩
  case round =>
    obtain ⟨k, cs, hk, rfl, hown, htk, hb⟩ := hrel
    have HCS : Hid (cs.length = ss.length) := by have := hown.out.1; show _ = _; omega
    clear HOWN hb1
    by_cases hlt : k < ss.length
    · obtain ⟨b, off, s, rfl, hbB, hat, hsz, hdr, hg⟩ := HS.out.at_ hlt
      obtain ⟨q0, q1, q2, q3⟩ := hat.below hb.out hbB
      have HN := Lib.hid (stake_next hlt hg)
      have HSS := Lib.hid (HD.out s (List.mem_of_mem_drop (i := k) (by rw [hdr]; simp)))
      have B1 := Lib.hid (below_al hb.out (Nat.le_refl _) (.cells #[.int .i64 s.fr, .string s.le, .int .i64 s.to_, .int .i64 s.co] 44))
      have V1 := Lib.hid (Blk.new wr 44 #[.int .i64 s.fr, .string s.le, .int .i64 s.to_, .int .i64 s.co])
      have O1 := Lib.hid (hown.out.alloc (.cells #[.int .i64 s.fr, .string s.le, .int .i64 s.to_, .int .i64 s.co] 44))
      clear hat hdr hg hown hb
      obtain ⟨W, hW⟩ : ∃ W, W = wr.alloc (.cells #[.int .i64 s.fr, .string s.le, .int .i64 s.to_, .int .i64 s.co] 44) := ⟨_, rfl⟩
      obtain ⟨V, hV⟩ : ∃ V, V = wr.heap.size := ⟨_, rfl⟩
      have HWE := Lib.hid hW
      have HVE := Lib.hid hV
      rw [← hW] at B1 V1 O1
      rw [← hV] at V1
      clear hW hV
      obtain ⟨hst, _⟩ := (show W.drew.ownsRow w.heap.size 9 1 (.slice (some ⟨w.heap.size, 0, none⟩) ss.length ss.length) ss.length cs from O1.out).stored k (Value.string (stepB s))
      have HST := Lib.hid hst
      have HBW := Lib.hid ((B1.out.drew).setCell (p := ⟨w.heap.size, k, none⟩) (Nat.le_refl _) (Value.string (stepB s)))
      clear hst
      go_upto_region 5 with fail
      rw [← HVE.out, ← HWE.out]
      clear HVE HWE q0 q1 q2 q3
      have KS : Hid (∀ w', Below W.heap.size W w' → (Hid (Below W.heap.size W w') ∧ w'.cell? ⟨V, 0, none⟩ = some (.int .i64 s.fr) ∧ w'.cell? ⟨V, 1, none⟩ = some (.string s.le) ∧ w'.cell? ⟨V, 2, none⟩ = some (.int .i64 s.to_) ∧ w'.cell? ⟨V, 3, none⟩ = some (.int .i64 s.co))) := fun w' h => by
        have v := blk_b V1.out h
        exact ⟨h, v.cell 0, v.cell 1, v.cell 2, v.cell 3⟩
      have hS0 := KS.out W.drew ((Below.refl _ _).drew)
      obtain ⟨f1, f2, f3, f4⟩ := HSS.out
      have d1 : (digF s.fr).length ≤ 1 := by have := digF_len f1; omega
      have d2 : (digF s.to_).length ≤ 1 := by have := digF_len f2; omega
      have d3 : (digF s.co).length ≤ 1 := by have := digF_len f3; omega
      have d4 : s.le.size ≤ 1 := by omega
      have hi0 : (0 : Int) ≤ (k : Int) := by omega
      have hi1 : (k : Int) < (ss.length : Int) := by omega
      obtain ⟨u0, hcell⟩ : ∃ u0, W.drew.cell? ⟨w.heap.size, k, none⟩ = some u0 := ⟨_, by show W.cell? _ = _; rw [O1.out.cellAt k (by omega), List.getElem?_eq_getElem (by have := HCS.out; omega)]⟩
      have hfr : W.drew.frozen? ⟨w.heap.size, k, none⟩ = false := O1.out.frozenAt k
      have a1 : ¬ 9223372036854775807 < (digF s.fr).length + s.le.size := by omega
      have a2 : ¬ 9223372036854775807 < (digF s.fr).length + s.le.size + (digF s.to_).length := by omega
      have a3 : ¬ 9223372036854775807 < (digF s.fr).length + s.le.size + (digF s.to_).length + 1 := by omega
      have a4 : ¬ 9223372036854775807 < (digF s.fr).length + s.le.size + (digF s.to_).length + 1 + (digF s.co).length := by omega
      have F1 := Lib.hid f1
      have F2 := Lib.hid f2
      have F3 := Lib.hid f3
      have hkw : IntKind.i64.wrap ((k : Nat) : Int) = (k : Int) := IntWalk.i64_in _ (by omega)
      clear f1 f2 f3 f4
      refine wp_region_Z (S := fun w' => Hid (Below W.heap.size W w') ∧ w'.cell? ⟨V, 0, none⟩ = some (.int .i64 s.fr) ∧ w'.cell? ⟨V, 1, none⟩ = some (.string s.le) ∧ w'.cell? ⟨V, 2, none⟩ = some (.int .i64 s.to_) ∧ w'.cell? ⟨V, 3, none⟩ = some (.int .i64 s.co)) (by kernel_rfl) hS0 (fun hS => ?_)
      clear hS0
      refine wpAnyZ_take (i := 0) (v := ?vip0) rfl (by kernel_rfl) (by kernel_rfl) (by kernel_rfl) (by kernel_rfl) (fun _ _ _ h => h) (Or.inl ⟨by kernel_rfl, ?yip0⟩) (by with_reducible assumption) ?rip0
      case yip0 => (intro w hSw; (try dsimp only at hSw); go_simp; (try with_reducible rfl))
      simp only [Act.put, List.setIfInBounds_toArray]
      refine wpAnyZ_take (i := 1) (v := ?vip1) rfl (by kernel_rfl) (by kernel_rfl) (by kernel_rfl) (by kernel_rfl) (fun _ _ _ h => h) (Or.inl ⟨by kernel_rfl, ?yip1⟩) (by with_reducible assumption) ?rip1
      case yip1 => (intro w hSw; (try dsimp only at hSw); go_simp; (try with_reducible rfl))
      simp only [Act.put]
      refine wpAnyZ_take (i := 2) (v := ?vip2) rfl (by kernel_rfl) (by kernel_rfl) (by kernel_rfl) (by kernel_rfl) (fun _ _ _ h => h) (Or.inl ⟨by kernel_rfl, ?yip2⟩) (by with_reducible assumption) ?rip2
      case yip2 => (intro w hSw; (try dsimp only at hSw); go_simp; (try with_reducible rfl))
      simp only [Act.put]
      refine wpAnyZ_take (i := 3) (v := ?vip3) rfl (by kernel_rfl) (by kernel_rfl) (by kernel_rfl) (by kernel_rfl) (fun _ _ _ h => h) (Or.inl ⟨by kernel_rfl, ?yip3⟩) (by with_reducible assumption) ?rip3
      case yip3 => (intro w hSw; (try dsimp only at hSw); go_simp; (try with_reducible rfl))
      simp only [Act.put]
      refine wpAnyZ_take (i := 5) (v := ?vip5) rfl (by kernel_rfl) (by kernel_rfl) (by kernel_rfl) (by kernel_rfl) (fun _ _ _ h => h) (Or.inl ⟨by kernel_rfl, ?yip5⟩) (by with_reducible assumption) ?rip5
      case yip5 => (intro w hSw; (try dsimp only at hSw); go_simp; (try with_reducible rfl))
      simp only [Act.put]
      refine wpAnyZ_take (i := 6) (v := ?vip6) rfl (by kernel_rfl) (by kernel_rfl) (by kernel_rfl) (by kernel_rfl) (fun _ _ _ h => h) (Or.inl ⟨by kernel_rfl, ?yip6⟩) (by with_reducible assumption) ?rip6
      case yip6 => (intro w hSw; (try dsimp only at hSw); go_simp; (try with_reducible rfl))
      simp only [Act.put]
      refine wpAnyZ_take (i := 8) (v := ?vip8) rfl (by kernel_rfl) (by kernel_rfl) (by kernel_rfl) (by kernel_rfl) (fun _ _ _ h => h) (Or.inl ⟨by kernel_rfl, ?yip8⟩) (by with_reducible assumption) ?rip8
      case yip8 => (intro w hSw; (try dsimp only at hSw); go_simp; (try with_reducible rfl))
      simp only [Act.put]
      refine wpAnyZ_take (i := 9) (v := ?vip9) rfl (by kernel_rfl) (by kernel_rfl) (by kernel_rfl) (by kernel_rfl) (fun _ _ _ h => h) (Or.inl ⟨by kernel_rfl, ?yip9⟩) (by with_reducible assumption) ?rip9
      case yip9 => (intro w hSw; (try dsimp only at hSw); go_simp; (try with_reducible rfl))
      simp only [Act.put]
      refine wpAnyZ_take (i := 13) (v := ?vip13) rfl (by kernel_rfl) (by kernel_rfl) (by kernel_rfl) (by kernel_rfl) (fun _ _ _ h => h) (Or.inl ⟨by kernel_rfl, ?yip13⟩) (by with_reducible assumption) ?rip13
      case yip13 => (intro w hSw; (try dsimp only at hSw); go_simp; (try with_reducible rfl))
      simp only [Act.put]
      refine wpAnyZ_take (i := 14) (v := ?vip14) rfl (by kernel_rfl) (by kernel_rfl) (by kernel_rfl) (by kernel_rfl) (fun _ _ _ h => h) (Or.inl ⟨by kernel_rfl, ?yip14⟩) (by with_reducible assumption) ?rip14
      case yip14 => (intro w hSw; (try dsimp only at hSw); go_simp; (try with_reducible rfl))
      simp only [Act.put]
      refine wpAnyZ_step (i := 4) (by kernel_rfl) rfl ?_
      intro K4 hK4
      go_simp
      refine (itoa_small _ _ F1.out).mono ?_
      rintro e w5 ⟨rfl, rfl⟩
      refine hK4.out _ _ hS (fun hS1 => ?_)
      clear hS
      clear hK4
      (try simp only [Act.put])
      refine wpAnyZ_take (i := 7) (v := ?viq7) rfl (by kernel_rfl) (by kernel_rfl) (by kernel_rfl) (by kernel_rfl) (fun _ _ _ h => h) (Or.inl ⟨by kernel_rfl, ?yiq7⟩) (by with_reducible assumption) ?riq7
      case yiq7 => (intro w hSw; (try dsimp only at hSw); go_simp; (try with_reducible rfl))
      simp only [Act.put]
      refine wpAnyZ_step (i := 10) (by kernel_rfl) rfl ?_
      intro K10 hK10
      go_simp
      refine (itoa_small _ _ F2.out).mono ?_
      rintro e w6 ⟨rfl, rfl⟩
      refine hK10.out _ _ hS1 (fun hS2 => ?_)
      clear hS1
      clear hK10
      (try simp only [Act.put])
      refine wpAnyZ_take (i := 11) (v := ?vir11) rfl (by kernel_rfl) (by kernel_rfl) (by kernel_rfl) (by kernel_rfl) (fun _ _ _ h => h) (Or.inl ⟨by kernel_rfl, ?yir11⟩) (by with_reducible assumption) ?rir11
      case yir11 => (intro w hSw; (try dsimp only at hSw); go_simp; (try with_reducible rfl))
      simp only [Act.put]
      refine wpAnyZ_take (i := 12) (v := ?vir12) rfl (by kernel_rfl) (by kernel_rfl) (by kernel_rfl) (by kernel_rfl) (fun _ _ _ h => h) (Or.inl ⟨by kernel_rfl, ?yir12⟩) (by with_reducible assumption) ?rir12
      case yir12 => (intro w hSw; (try dsimp only at hSw); go_simp; (try with_reducible rfl))
      simp only [Act.put]
      refine wpAnyZ_step (i := 15) (by kernel_rfl) rfl ?_
      intro K15 hK15
      go_simp
      refine (itoa_small _ _ F3.out).mono ?_
      rintro e w7 ⟨rfl, rfl⟩
      refine hK15.out _ _ hS2 (fun hS3 => ?_)
      clear hS2
      clear hK15
      (try simp only [Act.put])
      refine wpAnyZ_take (i := 16) (v := ?vis16) rfl (by kernel_rfl) (by kernel_rfl) (by kernel_rfl) (by kernel_rfl) (fun _ _ _ h => h) (Or.inl ⟨by kernel_rfl, ?yis16⟩) (by with_reducible assumption) ?ris16
      case yis16 => (intro w hSw; (try dsimp only at hSw); go_simp; (try with_reducible rfl))
      simp only [Act.put]
      refine wpAnyZ_take (i := 17) (v := ?vis17) rfl (by kernel_rfl) (by kernel_rfl) (by kernel_rfl) (by kernel_rfl) (fun _ _ _ h => h) (Or.inl ⟨by kernel_rfl, ?yis17⟩) (by with_reducible assumption) ?ris17
      case yis17 => (intro w hSw; (try dsimp only at hSw); go_simp; (try with_reducible rfl))
      simp only [Act.put]
      refine wpAnyZ_last (i := 18) (by kernel_rfl) rfl (by kernel_rfl) ?_
      intro K18 hK18
      go_simp
      refine hK18.out _ _ ?_
      clear hK18
      clear hkw
      have HTK : Hid ((cs.set k (Value.string (stepB s))).take (k + 1) = (ss.take (k + 1)).map (fun s => Value.string (stepB s))) := by
        show _ = _
        rw [take_set_snoc _ _ _ (by have := HCS.out; omega), htk.out, HN.out, List.map_append]
        rfl
      go_wp2_with fail
      go_roundw
      case rel => exact ⟨k + 1, _, by omega, by go_num, HST, HTK, HBW⟩
      case measure => simp [intOf]; omega
    · have hcs : cs = ss.map (fun s => Value.string (stepB s)) := by have := htk.out; have := HCS.out; rwa [List.take_of_length_le (by omega), List.take_of_length_le (by omega)] at htk
      have hcells : ∀ (j : Nat) x, (ss.map stepB)[j]? = some x → wr.cell? ⟨w.heap.size, 0 + j, none⟩ = some (.string x) := by
        intro j x hj
        rw [List.getElem?_map] at hj
        have hjl : j < ss.length := by
          rcases Nat.lt_or_ge j ss.length with h | h
          · exact h
          · rw [List.getElem?_eq_none h] at hj; cases hj
        rw [Nat.zero_add, hown.out.cellAt j (by omega), hcs, List.getElem?_map]
        rw [List.getElem?_eq_getElem hjl] at hj ⊢
        cases hj
        rfl
      have hmap : (ss.map stepB).map (·.data.toList) = ss.map stepT := by rw [List.map_map]; rfl
      have hj := Tryd.strings_Join w.heap.size 0 ss.length (ss.map stepB) ⟨#[32]⟩ wr hcells ((hown.out.lt w.heap.size rfl).2) (by rw [List.length_map]; omega) (by rw [List.length_map]; exact Nat.le_refl _) (by rw [hmap]; have h1 := join_len1 (ss.map stepT) 5 32 (fun x hx => by obtain ⟨z, hz, rfl⟩ := List.mem_map.1 hx; rw [stepT_len (HD.out z hz)]; exact Nat.le_refl _); rw [List.length_map] at h1; show (Lib.join (ss.map stepT) [32]).length ≤ _; omega)
      rw [hmap, List.length_map] at hj
      have HJ := Lib.hid hj
      clear hj hcells hmap hcs
      go_wp2_with fail
      refine HJ.out.mono ?_
      rintro e w3 ⟨rfl, hb3⟩
      go_wp2_with fail
      go_ret
      exact ⟨rfl, hb.out.trans (hb3.mono hb.out.size)⟩
end Go.Proofs.YtidahhfpnhmkgaaDoor
