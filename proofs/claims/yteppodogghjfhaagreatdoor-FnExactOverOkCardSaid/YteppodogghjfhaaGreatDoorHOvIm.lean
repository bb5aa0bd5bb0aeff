/-
  The walk of the program's own OverOk.
-/
import Derived.Test.YteppodogghjfhaaGreatDoorHOvOf
namespace Go.Proofs.YteppodogghjfhaaGreatDoor.Ov
open Go.RowKit Go.Lib

theorem TreeV.ex {w : World} {v : Value} {x : O} {lo se : List E} (h : TreeV w v x lo se) : ∃ p0 c0 p1 c1 p2 c2 p3 c3 p4 c4, v = .agg #[.slice p0 x.b.length c0, .slice p1 x.l.length c1, .slice p2 x.u.length c2, .slice p3 lo.length c3, .slice p4 se.length c4] := by
  obtain ⟨v0, v1, v2, u3, u4, rfl, ⟨a0, g0, o0, c0, rfl, -⟩, ⟨a1, g1, o1, c1, rfl, -⟩, ⟨a2, g2, o2, c2, rfl, -⟩, ⟨a3, g3, o3, c3, rfl, -⟩, ⟨a4, g4, o4, c4, rfl, -⟩⟩ := h
  exact ⟨_, _, _, _, _, _, _, _, _, _, rfl⟩

set_option maxHeartbeats 1000000 in
set_option maxRecDepth 100000 in
theorem iOverOk_any (w : World) (v : Value) (x : O) (ae : Int → Addr) (hErr : Errs2 w ae) (h : Lie w v x) :
    Calls Tryz.prog 12 #[v] w fun r w' => r = .returned (.bool (okB x)) ∧ Below w.heap.size w w' := by
  have hL := h
  obtain ⟨v0, v1, v2, rfl, h0, h1, h2⟩ := h
  obtain ⟨a0, g0, o0, c0, rfl, -⟩ := id h0
  obtain ⟨a1, g1, o1, c1, rfl, -⟩ := id h1
  obtain ⟨a2, g2, o2, c2, rfl, -⟩ := id h2
  obtain ⟨W0, hW0⟩ : ∃ W0, w.alloc (.cells #[.slice a0 x.b.length c0, .slice a1 x.l.length c1, .slice a2 x.u.length c2] 33) = W0 := ⟨_, rfl⟩
  have hb0 : Below w.heap.size w W0 := by rw [← hW0]; exact (Below.refl _ w).alloc (Nat.le_refl _) _
  have hX : C3 W0 w.heap.size (.slice a0 x.b.length c0) (.slice a1 x.l.length c1) (.slice a2 x.u.length c2) := by rw [← hW0]; exact C3.new _ _ _ _ _
  have HB := hidE hb0
  have HO := hidE (overOf_any W0 _ x ae (hErr.below hb0) (hL.below hb0))
  clear h0 h1 h2 hb0 hL hErr
  obtain ⟨k0, k1, k2, -, -, -⟩ := hX
  go_enter Tryz.func12, Tryz.ntmps12
  go_wp2_with fail
  refine HO.out.mono ?_
  rintro e w1 ⟨u, rfl, hT, hB⟩
  have HB1 := hidE (B3 HB.out hB)
  obtain ⟨p0, d0, p1, d1, p2, d2, p3, d3, p4, d4, rfl⟩ := hT.ex
  clear hB hT
  cases hok : okB x with
  | true =>
    rw [show erO x = .nilIface by unfold erO; rw [hok]; rfl]
    go_wp2
    go_ret
    exact ⟨ret_bE hok.symm, HB1.out.alloc HB1.out.size _⟩
  | false =>
    rw [show erO x = endV 1 by unfold erO; rw [hok]; rfl]
    unfold endV
    go_wp2
    go_ret
    exact ⟨ret_bE hok.symm, HB1.out.alloc HB1.out.size _⟩
end Go.Proofs.YteppodogghjfhaaGreatDoor.Ov
