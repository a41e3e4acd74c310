/- The model's decimal text of a number from 0 to 10^18: its digits; nothing that was there changes. -/
import Derived.Test.YtonnolpjfjbjpaaDoorCostA
import Derived.Lib.ItoaNum
import Derived.Laws.BytesString
import Derived.WalkLawsBesides
import Derived.WalkSpells
namespace Go.Proofs.YtonnolpjfjbjpaaDoor
open Go.RowKit
set_option maxHeartbeats 400000
set_option maxRecDepth 100000
set_option linter.unusedVariables false

theorem conv_one (w : World) (z : Int) : (convert 22 9 (.slice (some ⟨w.heap.size, 0, none⟩) 1 1)).run Tryd.prog (w.alloc (.cells #[.int .u8 z] 5)) = .ok (.string (ByteArray.empty.push (UInt8.ofNat z.toNat))) (w.alloc (.cells #[.int .u8 z] 5)) := by
  rw [run_convert_bytes_string _ _ _ _ _ _ _ Tryd.underlying22 Tryd.underlying5 Tryd.underlying9]
  rw [run_bytesToString _ _ 1 1 [z] (run_loadCells_list _ _ [.int .u8 z] (by
    intro j v hj
    match j, hj with
    | 0, hj => simp at hj; subst hj; simp [Addr.add]))]
  rfl

theorem dec_big {k : Nat} (h : 9 < k) : Lib.decDigits k = Lib.decDigits (k / 10) ++ [48 + UInt8.ofNat (k % 10)] := by
  rw [Lib.decDigits, dif_neg (by omega), UInt8.ofNat_add]; rfl
theorem dec_small {k : Nat} (h : ¬ 9 < k) : Lib.decDigits k = [48 + UInt8.ofNat k] := by
  rw [Lib.decDigits, dif_pos (by omega), UInt8.ofNat_add]; rfl
theorem push_data (u : UInt8) (t : ByteArray) : ((ByteArray.empty.push u) ++ t).data.toList = u :: t.data.toList := by
  simp [ByteArray.data_append, ByteArray.data_push, ByteArray.data_empty]

def DecEnd (n : Nat) (w : World) (e : Ending) (w' : World) : Prop := e = .returned (.string ⟨(Lib.decDigits n).toArray⟩) ∧ Below w.heap.size w w'

theorem dec_any (n : Nat) (w : World) (h1 : n ≤ 1000000000000000000) :
    Calls Tryd.prog 63 #[.int .i64 (n : Int)] w fun e w' => DecEnd n w e w' := by
  go_enter Tryd.func63, Tryd.ntmps63
  go_wp2
  go_loopw [0, 3] (fun x s wr => ∃ (k : Nat) (t : ByteArray), x = .int .i64 k ∧ s = .string t ∧ t.size + k ≤ n ∧ Hid (Lib.decDigits n = Lib.decDigits k ++ t.data.toList) ∧ Below w.heap.size w wr) (fun x _ _ => (intOf x).toNat)
  case atStart => exact ⟨n, ByteArray.empty, rfl, rfl, by show 0 + n ≤ n; omega, by show _ = _; simp, Below.refl _ _⟩
  case round =>
    obtain ⟨k, t, rfl, rfl, hk, hd, hb⟩ := hrel
    by_cases hlt : 9 < k
    · have hlt' : (9 : Int) < (k : Int) := by omega
      have hc := conv_one wr (48 + (k : Int) % 10)
      go_wp2
      go_roundw
      case rel =>
        refine ⟨k / 10, _, by go_num, rfl, ?_, ?_, hb.alloc hb.size _⟩
        · rw [ByteArray.size_append, ByteArray.size_push]; show 0 + 1 + t.size + k / 10 ≤ n; omega
        · show _ = _
          rw [hd.out, dec_big hlt, push_data, List.append_assoc]; rfl
      case measure => simp [intOf]; omega
    · have hlt' : ¬ (9 : Int) < (k : Int) := by omega
      have hc := conv_one wr (48 + (k : Int))
      go_wp2
      go_ret
      refine ⟨?_, hb.alloc hb.size _⟩
      rw [hd.out, dec_small hlt]
      have e : (ByteArray.empty.push (48 + UInt8.ofNat k) ++ t) = ⟨([48 + UInt8.ofNat k] ++ t.data.toList).toArray⟩ := by
        apply Go.WideShapes.bytes_inj
        rw [push_data]
        simp
      rw [← e]; rfl

end Go.Proofs.YtonnolpjfjbjpaaDoor
