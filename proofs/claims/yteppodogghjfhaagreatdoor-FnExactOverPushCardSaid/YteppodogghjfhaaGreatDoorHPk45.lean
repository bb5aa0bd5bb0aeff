import Derived.Test.YteppodogghjfhaaGreatDoorHMjJoinP
import Derived.Test.YteppodogghjfhaaGreatDoorHPk22
import Derived.Test.YteppodogghjfhaaGreatDoorHPk12
import Derived.Test.YteppodogghjfhaaGreatDoorHPk05
import Derived.Test.YteppodogghjfhaaGreatDoorHPk18
import Derived.Test.YteppodogghjfhaaGreatDoorHLyJnS
namespace Go.Proofs.YteppodogghjfhaaGreatDoor.Mk
open Go.RowKit Go.Shelf Go.Lib Go.Maps
attribute [local go_sem] Oper.semAt_some
structure JnI (w W : World) (bx aj : Nat) (rA rB : Nat) (n : Nat) (l : List E) : Prop where
 rep : ∃ J : ByteArray → Nat, J ⟨#[47]⟩ = aj ∧ Rep W w.heap.size n l J
 below : Below w.heap.size w W
 x1 : Box2 W w.heap.size (.iface 207 (.agg #[])) (.map (some rA))
 x2 : Box2 W (w.heap.size + 1) (.iface 207 (.agg #[])) (.map (some rB))
 x3 : Box2 W (w.heap.size + 2) .nilIface (.map none)
 x5 : Box2 W bx (.iface 207 (.agg #[])) (.map (some aj))
theorem JnI.bel {w W W' : World} {bx aj rA rB n : Nat} {l : List E} (h : JnI w W bx aj rA rB n l) (hB : Below W.heap.size W W') : JnI w W' bx aj rA rB n l := by
 obtain ⟨⟨J, h1, h2⟩, h3, h4, h5, h6, h7⟩ := h; exact ⟨⟨J, h1, h2.below hB⟩, h3.trans (hB.mono h3.size), h4.below hB, h5.below hB, h6.below hB, h7.below hB⟩
theorem JnI.own {β : Type} {w : World} {B bx aj rA rB : Nat} (hB : w.heap.size ≤ B) (n : β → Nat) (l : β → List E) : OwnL B (fun s W => JnI w W bx aj rA rB (n s) (l s)) := fun s W W' row h hg hr => by
 obtain ⟨⟨J, h1, h2⟩, h3, h4, h5, h6, h7⟩ := h; have hk := keepsA_of hg (fun r e => (hr r e).2); exact ⟨⟨J, h1, h2.keepsA hk⟩, h3.grown hg h3.size (fun q e => Nat.le_trans hB (hr q e).1), h4.keepsA hk, h5.keepsA hk, h6.keepsA hk, h7.keepsA hk⟩
end Go.Proofs.YteppodogghjfhaaGreatDoor.Mk
namespace Go.Proofs.YteppodogghjfhaaGreatDoor.Mk
open Go.RowKit Go.Shelf Go.Lib Go.Maps
attribute [local go_sem] Oper.semAt_some
structure StI (w W : World) (bx aj : Nat) (rA : Nat) (n : Nat) (l : List E) : Prop where
 rep : ∃ J : ByteArray → Nat, J ⟨#[47]⟩ = aj ∧ Rep W w.heap.size n l J
 below : Below w.heap.size w W
 x1 : Box2 W w.heap.size (.iface 207 (.agg #[])) (.map (some rA))
 x2 : Box2 W (w.heap.size + 1) .nilIface (.map none)
 x3 : Box2 W bx (.iface 207 (.agg #[])) (.map (some aj))
theorem StI.bel {w W W' : World} {bx aj rA n : Nat} {l : List E} (h : StI w W bx aj rA n l) (hB : Below W.heap.size W W') : StI w W' bx aj rA n l := by
 obtain ⟨⟨J, h1, h2⟩, h3, h4, h6, h7⟩ := h; exact ⟨⟨J, h1, h2.below hB⟩, h3.trans (hB.mono h3.size), h4.below hB, h6.below hB, h7.below hB⟩
theorem StI.own {β : Type} {w : World} {B bx aj rA : Nat} (hB : w.heap.size ≤ B) (n : β → Nat) (l : β → List E) : OwnL B (fun s W => StI w W bx aj rA (n s) (l s)) := fun s W W' row h hg hr => by
 obtain ⟨⟨J, h1, h2⟩, h3, h4, h6, h7⟩ := h; have hk := keepsA_of hg (fun r e => (hr r e).2); exact ⟨⟨J, h1, h2.keepsA hk⟩, h3.grown hg h3.size (fun q e => Nat.le_trans hB (hr q e).1), h4.keepsA hk, h6.keepsA hk, h7.keepsA hk⟩
end Go.Proofs.YteppodogghjfhaaGreatDoor.Mk
namespace Go.Proofs.YteppodogghjfhaaGreatDoor.Mk
open Go.RowKit Go.Lib Go.Shelf
attribute [local go_sem] Oper.semAt_some
def jnB (a b : List E) : Bool := (layB a && layB b) && decide ((Ly.tidyM (Ly.joinM a b)).length ≤ 32)
def jnE (a b : List E) : List E := if jnB a b = true then Ly.tidyM (Ly.joinM a b) else []
theorem lay_len {l : List E} (h : layB l = true) : l.length ≤ 32 := by
 unfold layB at h; rw [Bool.and_eq_true] at h; exact of_decide_eq_true h.2
end Go.Proofs.YteppodogghjfhaaGreatDoor.Mk
