/- Layer 10 (keys): what the laws' own look reckons: the first secrets of an id are not the same. -/
import Derived.Test.YtfpflhcabjcamaaDoorV10Math
namespace Go.Proofs.YtfpflhcabjcamaaDoor
def cidL : List Nat := [99, 105, 100]
def mL : List Nat := [109]
def txL : List Nat := [116, 101, 120, 116]
theorem first_ne : (firstN cidL).1 ≠ (firstN cidL).2 := by decide +kernel
end Go.Proofs.YtfpflhcabjcamaaDoor
