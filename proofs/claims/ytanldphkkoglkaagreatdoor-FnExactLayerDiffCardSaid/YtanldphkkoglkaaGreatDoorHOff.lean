/-
  The walk of the model's Off.
-/
import Derived.Test.YtanldphkkoglkaaGreatDoorHPk15
namespace Go.Proofs.YtanldphkkoglkaaGreatDoor
open Go.RowKit Go.Lib

theorem off_len (es : List E) (s : ByteArray) (k : Nat) : (offE (es.take k) s).length ≤ k := by
  unfold offE
  have := List.length_filter_le (fun e : E => !(e.p.toList == s.toList)) (es.take k)
  rw [List.length_take] at this; omega

end Go.Proofs.YtanldphkkoglkaaGreatDoor
