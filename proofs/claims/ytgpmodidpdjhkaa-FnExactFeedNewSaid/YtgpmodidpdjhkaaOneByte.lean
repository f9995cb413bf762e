/- string([]byte{y}), the slice just made: the text of one byte. No conditions. -/
import Derived.Test.YtgpmodidpdjhkaaDig
import Derived.IntWalk
import Derived.Laws.Rows
namespace Go.Proofs.Ytgpmodidpdjhkaa
open Go.RowKit
set_option linter.unusedVariables false

/-- string([]byte{y}), the slice just made. -/
theorem run_one_byte (w : World) (y : Int) :
    (convert 22 9 (.slice (some ⟨w.heap.size, 0, none⟩) 1 1)).run Try.prog (w.alloc (.cells #[.int .u8 y] 5)) = .ok (.string (ByteArray.empty.push (UInt8.ofNat y.toNat))) (w.alloc (.cells #[.int .u8 y] 5)) := by
  rw [run_convert_bytes_string _ 22 9 5 _ _ _ Try.underlying22 Try.underlying5 Try.underlying9]
  have h : (loadCells ⟨w.heap.size, 0, none⟩ 1).run Try.prog (w.alloc (.cells #[.int .u8 y] 5)) = .ok ([y].map (Value.int .u8)).toArray (w.alloc (.cells #[.int .u8 y] 5)) := by
    refine run_loadCells_list _ ⟨w.heap.size, 0, none⟩ [.int .u8 y] (fun j v hj => ?_)
    rcases j with _ | j
    · simp at hj
      subst hj
      exact cell_of_row (w.alloc (.cells #[.int .u8 y] 5)) w.heap.size 0 _ _ (0, 0) (heap_alloc_new w _)
    · simp at hj
  rw [run_bytesToString _ _ 1 1 [y] h]
  rfl

theorem push_size (s : ByteArray) (b : UInt8) (k : Nat) (h : s.size = k) : (s ++ ByteArray.empty.push b).size = k + 1 := by
  rw [ByteArray.size_append, h]; rfl

end Go.Proofs.Ytgpmodidpdjhkaa
