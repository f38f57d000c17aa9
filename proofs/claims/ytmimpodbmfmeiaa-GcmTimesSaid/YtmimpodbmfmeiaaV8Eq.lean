/- Layer 8 (aes): which blocks, and which round keys, are the same, by '=='. -/
import Derived.Test.YtmimpodbmfmeiaaV8Cipher
import Derived.Test.YtmimpodbmfmeiaaEqTake
import Derived.Test.YtmimpodbmfmeiaaEqU8
import Derived.ChangeKeysEq
namespace Go.Proofs.Ytmimpodbmfmeiaa
open Go.RowKit

theorem cellsRow4 : Try.prog.cellsOf 73 = 4 := by kernel_rfl

theorem blk_eql (xs ys : List Nat) (hx : xs.length = 16) (hy : ys.length = 16) (w : World) : (Op.equalIn 10000 22 (.agg (u8s xs).toArray) (.agg (u8s ys).toArray)).run Try.prog w = .ok (decide (xs = ys)) w :=
  arr_eql _ 16 9998 Try.underlying22 xs ys hx hy w
end Go.Proofs.Ytmimpodbmfmeiaa
