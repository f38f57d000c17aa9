/- Layer 9 (gcm), plain: the laws' own example, reckoned. No program is named here. -/
import Derived.Test.YtidafbpiipjnlaaV9Plain
namespace Go.Proofs.Ytidafbpiipjnlaa

def key9 : List Nat := [1, 0, 0, 0, 0, 0, 0, 0, 0, 0, 0, 0, 0, 0, 0, 0]
def nonce9 : List Nat := [2, 0, 0, 0, 0, 0, 0, 0, 0, 0, 0, 0]
def more9 : List Nat := [109, 111, 114, 101]
def mora9 : List Nat := [109, 111, 114, 97]
def text9 : List Nat := [116, 101, 120, 116]
def seven9 : List Nat := [7, 0, 0, 0, 0, 0, 0, 0, 0, 0, 0, 0, 0, 0, 0, 0]
def one9 : List Nat := [128, 0, 0, 0, 0, 0, 0, 0, 0, 0, 0, 0, 0, 0, 0, 0]
theorem open_mora : openG key9 nonce9 mora9 (sealG key9 nonce9 more9 text9) = ([], 7) := by decide +kernel
theorem open_more : openG key9 nonce9 more9 (sealG key9 nonce9 more9 text9) = (text9, 0) := open_seal _ _ _ _
theorem times_one : tmsB one9 seven9 = seven9 := by
  rw [tmsB_comm]
  exact tmsB_one (by decide) (by decide)
end Go.Proofs.Ytidafbpiipjnlaa
