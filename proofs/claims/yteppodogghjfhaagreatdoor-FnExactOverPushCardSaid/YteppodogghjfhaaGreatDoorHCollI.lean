import Derived.RangeFuncBox
import Derived.RangeFuncNested
import Derived.OwnWalkIn
import Derived.Maps.OwnIn
import Derived.Maps.AppendAt
import Derived.Test.YteppodogghjfhaaGreatDoorHPk16
namespace Go.Proofs.YteppodogghjfhaaGreatDoor
open Go.RowKit Go.Shelf Go.Lib Go.Maps
theorem pts_of {W : World} {vb g : Nat} {t : TypeId} {v : Value} (h : Boxed W vb t v) : pts W vb g → v.ownBlock = some g := by
 rintro ⟨o, n, cap, e⟩; rw [h.cell] at e
 injection e with e
 rw [e]; rfl
theorem pts_row {W : World} {vb g base n : Nat} {t e : TypeId} {size : Nat} {v : Value} {xs : List Value} (h : Boxed W vb t v) (hr : W.ownsRow base e size v n xs) (hg : v.ownBlock = some g) : pts W vb g := by
 rcases hr.2 with ⟨rfl, _⟩ | ⟨g', cap, cur, rfl, _⟩
 ·
  simp [Value.ownBlock] at hg
 ·
  obtain rfl : g' = g := by simpa [Value.ownBlock] using hg
  exact ⟨0, n, cap, h.cell⟩
theorem good_row {W : World} {vb base n : Nat} {t e : TypeId} {size : Nat} {v : Value} {xs : List Value} (h : Boxed W vb t v) (hr : W.ownsRow base e size v n xs) : Good vb W := fun g hg => by
 have := pts_of h hg; rcases hr.2 with ⟨rfl, _⟩ | ⟨g', cap, cur, rfl, _, hh, _⟩
 ·
  simp [Value.ownBlock] at this
 ·
  obtain rfl : g' = g := by simpa [Value.ownBlock] using this
  exact (Array.getElem?_eq_some_iff.1 hh).1
theorem KpT.appended {W w1 : World} {vb n₀ : Nat} {t e : TypeId} {size : Nat} {v v' : Value} {k m : Nat} {xs ys : List Value} {tmp : Obj}
  (hv : Boxed W vb t v) (hte : t ≠ e) (hrow : W.ownsRow n₀ e size v k xs) (hn₀ : n₀ ≤ W.heap.size) (hB : n₀ ≤ vb)
  (hown' : w1.ownsRow n₀ e size v' m ys) (hgrow : (W.alloc tmp).grownBy w1 v.ownBlock) (hat : v'.ownBlock = v.ownBlock ∨ v'.ownBlock = some (W.alloc tmp).heap.size) :
  KpT vb W (w1.setCell ⟨vb, 0, none⟩ v') := by
 obtain ⟨_, hv2, hr2, hk2, _⟩ := hv.appended hte hrow hn₀ hB hown' hgrow; refine ⟨hk2.walks, fun b o h1 _ h3 h4 => ?_, fun g hg => ?_, fun _ => good_row hv2 hr2⟩
 ·
  have hlt := (Array.getElem?_eq_some_iff.1 h1).1; rw [Below.heap_setCell w1 ⟨vb, 0, none⟩ v' b h3]; rw [hgrow.block b (by simp; omega) (fun q => h4 (pts_row hv hrow q.symm)), Below.heap_alloc W tmp b hlt]; exact h1
 ·
  have := pts_of hv2 hg; rcases hat with h | h
  ·
   rw [h] at this; exact .inl (pts_row hv hrow this)
  ·
   rw [h] at this
   right
   simp at this; omega
theorem row_lt {W : World} {base n : Nat} {e : TypeId} {size : Nat} {v : Value} {xs : List Value} (hr : W.ownsRow base e size v n xs) : ∃ a cap, v = .slice a n cap := row_sl hr
end Go.Proofs.YteppodogghjfhaaGreatDoor
