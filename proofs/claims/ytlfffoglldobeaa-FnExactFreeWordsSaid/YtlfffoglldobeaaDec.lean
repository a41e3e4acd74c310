/- The model's decimal text of a number from 0 to 10^18: its digits; nothing that was there changes. -/
import Derived.Test.YtlfffoglldobeaaCostA
import Derived.Lib.ItoaNum
import Derived.Laws.BytesString
import Derived.WalkLawsBesides
import Derived.WalkSpells
namespace Go.Proofs.Ytlfffoglldobeaa
open Go.RowKit
set_option maxHeartbeats 400000
set_option maxRecDepth 100000
set_option linter.unusedVariables false

theorem conv_one (w : World) (z : Int) : (convert 85 9 (.slice (some ⟨w.heap.size, 0, none⟩) 1 1)).run Try.prog (w.alloc (.cells #[.int .u8 z] 5)) = .ok (.string (ByteArray.empty.push (UInt8.ofNat z.toNat))) (w.alloc (.cells #[.int .u8 z] 5)) := by
  rw [run_convert_bytes_string _ _ _ _ _ _ _ Try.underlying85 Try.underlying5 Try.underlying9]
  rw [run_bytesToString _ _ 1 1 [z] (run_loadCells_list _ _ [.int .u8 z] (by
    intro j v hj
    match j, hj with
    | 0, hj => simp at hj; subst hj; simp [Addr.add]))]
  rfl

theorem dec_big {k : Nat} (h : 9 < k) : Lib.decDigits k = Lib.decDigits (k / 10) ++ [48 + UInt8.ofNat (k % 10)] := by
  rw [Lib.decDigits, dif_neg (by omega), UInt8.ofNat_add]; rfl
theorem dec_small {k : Nat} (h : ¬ 9 < k) : Lib.decDigits k = [48 + UInt8.ofNat k] := by
  rw [Lib.decDigits, dif_pos (by omega), UInt8.ofNat_add]; rfl
theorem push_data (u : UInt8) (t : ByteArray) : ((ByteArray.empty.push u) ++ t).data.toList = u :: t.data.toList := by
  simp [ByteArray.data_append, ByteArray.data_push, ByteArray.data_empty]

def DecEnd (n : Nat) (w : World) (e : Ending) (w' : World) : Prop := e = .returned (.string ⟨(Lib.decDigits n).toArray⟩) ∧ Below w.heap.size w w'

end Go.Proofs.Ytlfffoglldobeaa
