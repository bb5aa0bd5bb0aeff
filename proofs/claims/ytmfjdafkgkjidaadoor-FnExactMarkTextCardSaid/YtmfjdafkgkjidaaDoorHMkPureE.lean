/-
  Plain facts on layers as lists of marks: no program is named here.
-/
import Derived.Test.YtmfjdafkgkjidaaDoorHPureE
namespace Go.Proofs.YtmfjdafkgkjidaaDoor.Mk
open Go.Lib

/-- A mark: its path, its kind, its data. -/
structure E where
  p : ByteArray
  d : Int
  x : ByteArray
/-- Two marks are the same. -/
def sameT1 (e f : E) : Bool := (e.p.toList == f.p.toList) && (e.d == f.d) && (e.x.toList == f.x.toList)
/-- Two lists of marks are the same. -/
def sameT : List E → List E → Bool
  | [], [] => true
  | e :: r, f :: q => sameT1 e f && sameT r q
  | _, _ => false
theorem same_drop (es fs : List E) (k : Nat) (h : k < es.length) (h2 : k < fs.length) : sameT (es.drop k) (fs.drop k) = (sameT1 es[k] fs[k] && sameT (es.drop (k + 1)) (fs.drop (k + 1))) := by
  rw [List.drop_eq_getElem_cons h, List.drop_eq_getElem_cons h2]; rfl
end Go.Proofs.YtmfjdafkgkjidaaDoor.Mk
