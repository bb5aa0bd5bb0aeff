/-
  The walk of the model's PathOk, in the program's words.
-/
import Derived.Test.YtenlibefdefjmaaDoorHSpec
namespace Go.Proofs.YtenlibefdefjmaaDoor
open Go.RowKit Go.Lib

theorem ret_int' {k : IntKind} {a b : Int} (h : a = b) : Ending.returned (.int k a) = .returned (.int k b) := by rw [h]
theorem ret_str' {a b : ByteArray} (h : a = b) : Ending.returned (.string a) = .returned (.string b) := by rw [h]
theorem ret_two' {a b : ByteArray} {c d : Bool} (h : a = b) (k : c = d) : Ending.returned (.tuple #[.string a, .bool c]) = .returned (.tuple #[.string b, .bool d]) := by rw [h, k]

/-- The model's PathOk, in the words of the program's. -/
theorem sOk_any (s : ByteArray) (hm : s.size ≤ 67108864) (w : World) :
    Calls Tryd.prog 21 #[.string s] w fun e w' => e = .returned (.bool (pathB s)) ∧ Below w.heap.size w w' := by
  rw [← specOk_eq]; exact sPathOk_any s w (by omega)

end Go.Proofs.YtenlibefdefjmaaDoor
