import Derived.Test.YtafeddiijemnbaaGreatDoorHPk07
import Derived.Test.YtafeddiijemnbaaGreatDoorHErrIs
namespace Go.Proofs.YtafeddiijemnbaaGreatDoor
open Go.RowKit Go.Shelf Go.Lib
attribute [local go_sem] Oper.semAt_some
theorem hidC {p : Prop} (h : p) : Hid p := h
structure Errs8 (w : World) (ae : Int → Addr) : Prop where
 two : Errs2 w ae
 bad : w.cell? ⟨0, 0, none⟩ = some (.iface 168 (.pointer (some (ae 1))))
 there : w.cell? ⟨3, 0, none⟩ = some (.iface 168 (.pointer (some (ae 4))))
 isDir : w.cell? ⟨4, 0, none⟩ = some (.iface 168 (.pointer (some (ae 5))))
 kept : w.cell? ⟨5, 0, none⟩ = some (.iface 168 (.pointer (some (ae 6))))
 under : w.cell? ⟨6, 0, none⟩ = some (.iface 168 (.pointer (some (ae 7))))
 room : w.cell? ⟨7, 0, none⟩ = some (.iface 168 (.pointer (some (ae 8))))
 ne : ∀ c d, 1 ≤ c → c < d → d ≤ 8 → ae c ≠ ae d
 row : ∀ c, 1 ≤ c → c ≤ 8 → ∃ (cs : Array Value) (t : TypeId), w.heap[(ae c).block]? = some (.cells cs t (0, 0))
theorem Errs8.below {w w' : World} {ae : Int → Addr} (h : Errs8 w ae) (hb : Below w.heap.size w w') : Errs8 w' ae :=
 ⟨h.two.below hb, below_cell hb h.bad, below_cell hb h.there, below_cell hb h.isDir, below_cell hb h.kept, below_cell hb h.under, below_cell hb h.room, h.ne, fun c h1 h2 => by
  obtain ⟨cs, t, k⟩ := h.row c h1 h2
  exact ⟨cs, t, (hb.block _ (Array.getElem?_eq_some_iff.1 k).1).trans k⟩⟩
theorem is_else {w : World} {ae : Int → Addr} (h : Errs8 w ae) (c d : Int) (c1 : 1 ≤ c) (c8 : c ≤ 8) (d1 : 1 ≤ d) (d8 : d ≤ 8) (hn : c ≠ d) :
  Calls Tryz.prog 36 #[.iface 168 (.pointer (some (ae c))), .iface 168 (.pointer (some (ae d)))] w fun e w' => e = .returned (.bool false) ∧ w' = w := by
 obtain ⟨ca, ta, ha⟩ := h.row c c1 c8; obtain ⟨cb, tb, hb⟩ := h.row d d1 d8; refine is_other (ae c) (ae d) ca cb ta tb w ?_ ha hb; rcases Int.lt_or_gt_of_ne hn with k | k
 ·
  exact h.ne c d c1 k d8
 ·
  exact (h.ne d c d1 k c8).symm
set_option maxHeartbeats 1000000 in
set_option maxRecDepth 100000 in
theorem doCode_1 (w : World) (ae : Int → Addr) (hE : Errs8 w ae) :
  Calls Tryz.prog 17 #[.iface 168 (.pointer (some (ae 1)))] w fun e w' => e = .returned (.int .i64 1) ∧ w' = w := by
 have n2 := hE.two.noneC; have n3 := hE.two.fileC; have n4 := hE.there; have n5 := hE.isDir; have n6 := hE.kept; have n7 := hE.under; have n8 := hE.room; have H2 := hidC (is_else hE 1 2 (by decide) (by decide) (by decide) (by decide) (by decide)); have H3 := hidC (is_else hE 1 3 (by decide) (by decide) (by decide) (by decide) (by decide)); have H4 := hidC (is_else hE 1 4 (by decide) (by decide) (by decide) (by decide) (by decide)); have H5 := hidC (is_else hE 1 5 (by decide) (by decide) (by decide) (by decide) (by decide)); have H6 := hidC (is_else hE 1 6 (by decide) (by decide) (by decide) (by decide) (by decide)); have H7 := hidC (is_else hE 1 7 (by decide) (by decide) (by decide) (by decide) (by decide)); have H8 := hidC (is_else hE 1 8 (by decide) (by decide) (by decide) (by decide) (by decide)); clear hE; go_enter Tryz.func17, Tryz.ntmps17
 go_wp2_with fail
 refine H2.out.mono ?_; rintro e w1 ⟨rfl, rfl⟩; go_wp2_with fail
 refine H3.out.mono ?_; rintro e w1 ⟨rfl, rfl⟩; go_wp2_with fail
 refine H4.out.mono ?_; rintro e w1 ⟨rfl, rfl⟩; go_wp2_with fail
 refine H5.out.mono ?_; rintro e w1 ⟨rfl, rfl⟩; go_wp2_with fail
 refine H6.out.mono ?_; rintro e w1 ⟨rfl, rfl⟩; go_wp2_with fail
 refine H7.out.mono ?_; rintro e w1 ⟨rfl, rfl⟩; go_wp2_with fail
 refine H8.out.mono ?_; rintro e w1 ⟨rfl, rfl⟩; go_wp2
 go_ret
 exact ⟨rfl, rfl⟩
set_option maxHeartbeats 1000000 in
set_option maxRecDepth 100000 in
theorem doCode_2 (w : World) (ae : Int → Addr) (hE : Errs8 w ae) :
  Calls Tryz.prog 17 #[.iface 168 (.pointer (some (ae 2)))] w fun e w' => e = .returned (.int .i64 2) ∧ w' = w := by
 have n2 := hE.two.noneC; have n3 := hE.two.fileC; have n4 := hE.there; have n5 := hE.isDir; have n6 := hE.kept; have n7 := hE.under; have n8 := hE.room; have HS := hidC (is_same (ae 2) w); clear hE; go_enter Tryz.func17, Tryz.ntmps17
 go_wp2_with fail
 refine HS.out.mono ?_; rintro e w1 ⟨rfl, rfl⟩; go_wp2
 go_ret
 exact ⟨rfl, rfl⟩
set_option maxHeartbeats 1000000 in
set_option maxRecDepth 100000 in
theorem doCode_3 (w : World) (ae : Int → Addr) (hE : Errs8 w ae) :
  Calls Tryz.prog 17 #[.iface 168 (.pointer (some (ae 3)))] w fun e w' => e = .returned (.int .i64 3) ∧ w' = w := by
 have n2 := hE.two.noneC; have n3 := hE.two.fileC; have n4 := hE.there; have n5 := hE.isDir; have n6 := hE.kept; have n7 := hE.under; have n8 := hE.room; have H2 := hidC (is_else hE 3 2 (by decide) (by decide) (by decide) (by decide) (by decide)); have HS := hidC (is_same (ae 3) w); clear hE; go_enter Tryz.func17, Tryz.ntmps17
 go_wp2_with fail
 refine H2.out.mono ?_; rintro e w1 ⟨rfl, rfl⟩; go_wp2_with fail
 refine HS.out.mono ?_; rintro e w1 ⟨rfl, rfl⟩; go_wp2
 go_ret
 exact ⟨rfl, rfl⟩
set_option maxHeartbeats 1000000 in
set_option maxRecDepth 100000 in
theorem doCode_4 (w : World) (ae : Int → Addr) (hE : Errs8 w ae) :
  Calls Tryz.prog 17 #[.iface 168 (.pointer (some (ae 4)))] w fun e w' => e = .returned (.int .i64 4) ∧ w' = w := by
 have n2 := hE.two.noneC; have n3 := hE.two.fileC; have n4 := hE.there; have n5 := hE.isDir; have n6 := hE.kept; have n7 := hE.under; have n8 := hE.room; have H2 := hidC (is_else hE 4 2 (by decide) (by decide) (by decide) (by decide) (by decide)); have H3 := hidC (is_else hE 4 3 (by decide) (by decide) (by decide) (by decide) (by decide)); have HS := hidC (is_same (ae 4) w); clear hE; go_enter Tryz.func17, Tryz.ntmps17
 go_wp2_with fail
 refine H2.out.mono ?_; rintro e w1 ⟨rfl, rfl⟩; go_wp2_with fail
 refine H3.out.mono ?_; rintro e w1 ⟨rfl, rfl⟩; go_wp2_with fail
 refine HS.out.mono ?_; rintro e w1 ⟨rfl, rfl⟩; go_wp2
 go_ret
 exact ⟨rfl, rfl⟩
set_option maxHeartbeats 1000000 in
set_option maxRecDepth 100000 in
theorem doCode_5 (w : World) (ae : Int → Addr) (hE : Errs8 w ae) :
  Calls Tryz.prog 17 #[.iface 168 (.pointer (some (ae 5)))] w fun e w' => e = .returned (.int .i64 5) ∧ w' = w := by
 have n2 := hE.two.noneC; have n3 := hE.two.fileC; have n4 := hE.there; have n5 := hE.isDir; have n6 := hE.kept; have n7 := hE.under; have n8 := hE.room; have H2 := hidC (is_else hE 5 2 (by decide) (by decide) (by decide) (by decide) (by decide)); have H3 := hidC (is_else hE 5 3 (by decide) (by decide) (by decide) (by decide) (by decide)); have H4 := hidC (is_else hE 5 4 (by decide) (by decide) (by decide) (by decide) (by decide)); have HS := hidC (is_same (ae 5) w); clear hE; go_enter Tryz.func17, Tryz.ntmps17
 go_wp2_with fail
 refine H2.out.mono ?_; rintro e w1 ⟨rfl, rfl⟩; go_wp2_with fail
 refine H3.out.mono ?_; rintro e w1 ⟨rfl, rfl⟩; go_wp2_with fail
 refine H4.out.mono ?_; rintro e w1 ⟨rfl, rfl⟩; go_wp2_with fail
 refine HS.out.mono ?_; rintro e w1 ⟨rfl, rfl⟩; go_wp2
 go_ret
 exact ⟨rfl, rfl⟩
set_option maxHeartbeats 1000000 in
set_option maxRecDepth 100000 in
theorem doCode_6 (w : World) (ae : Int → Addr) (hE : Errs8 w ae) :
  Calls Tryz.prog 17 #[.iface 168 (.pointer (some (ae 6)))] w fun e w' => e = .returned (.int .i64 6) ∧ w' = w := by
 have n2 := hE.two.noneC; have n3 := hE.two.fileC; have n4 := hE.there; have n5 := hE.isDir; have n6 := hE.kept; have n7 := hE.under; have n8 := hE.room; have H2 := hidC (is_else hE 6 2 (by decide) (by decide) (by decide) (by decide) (by decide)); have H3 := hidC (is_else hE 6 3 (by decide) (by decide) (by decide) (by decide) (by decide)); have H4 := hidC (is_else hE 6 4 (by decide) (by decide) (by decide) (by decide) (by decide)); have H5 := hidC (is_else hE 6 5 (by decide) (by decide) (by decide) (by decide) (by decide)); have HS := hidC (is_same (ae 6) w); clear hE; go_enter Tryz.func17, Tryz.ntmps17
 go_wp2_with fail
 refine H2.out.mono ?_; rintro e w1 ⟨rfl, rfl⟩; go_wp2_with fail
 refine H3.out.mono ?_; rintro e w1 ⟨rfl, rfl⟩; go_wp2_with fail
 refine H4.out.mono ?_; rintro e w1 ⟨rfl, rfl⟩; go_wp2_with fail
 refine H5.out.mono ?_; rintro e w1 ⟨rfl, rfl⟩; go_wp2_with fail
 refine HS.out.mono ?_; rintro e w1 ⟨rfl, rfl⟩; go_wp2
 go_ret
 exact ⟨rfl, rfl⟩
set_option maxHeartbeats 1000000 in
set_option maxRecDepth 100000 in
theorem doCode_7 (w : World) (ae : Int → Addr) (hE : Errs8 w ae) :
  Calls Tryz.prog 17 #[.iface 168 (.pointer (some (ae 7)))] w fun e w' => e = .returned (.int .i64 7) ∧ w' = w := by
 have n2 := hE.two.noneC; have n3 := hE.two.fileC; have n4 := hE.there; have n5 := hE.isDir; have n6 := hE.kept; have n7 := hE.under; have n8 := hE.room; have H2 := hidC (is_else hE 7 2 (by decide) (by decide) (by decide) (by decide) (by decide)); have H3 := hidC (is_else hE 7 3 (by decide) (by decide) (by decide) (by decide) (by decide)); have H4 := hidC (is_else hE 7 4 (by decide) (by decide) (by decide) (by decide) (by decide)); have H5 := hidC (is_else hE 7 5 (by decide) (by decide) (by decide) (by decide) (by decide)); have H6 := hidC (is_else hE 7 6 (by decide) (by decide) (by decide) (by decide) (by decide)); have HS := hidC (is_same (ae 7) w); clear hE; go_enter Tryz.func17, Tryz.ntmps17
 go_wp2_with fail
 refine H2.out.mono ?_; rintro e w1 ⟨rfl, rfl⟩; go_wp2_with fail
 refine H3.out.mono ?_; rintro e w1 ⟨rfl, rfl⟩; go_wp2_with fail
 refine H4.out.mono ?_; rintro e w1 ⟨rfl, rfl⟩; go_wp2_with fail
 refine H5.out.mono ?_; rintro e w1 ⟨rfl, rfl⟩; go_wp2_with fail
 refine H6.out.mono ?_; rintro e w1 ⟨rfl, rfl⟩; go_wp2_with fail
 refine HS.out.mono ?_; rintro e w1 ⟨rfl, rfl⟩; go_wp2
 go_ret
 exact ⟨rfl, rfl⟩
set_option maxHeartbeats 1000000 in
set_option maxRecDepth 100000 in
theorem doCode_8 (w : World) (ae : Int → Addr) (hE : Errs8 w ae) :
  Calls Tryz.prog 17 #[.iface 168 (.pointer (some (ae 8)))] w fun e w' => e = .returned (.int .i64 8) ∧ w' = w := by
 have n2 := hE.two.noneC; have n3 := hE.two.fileC; have n4 := hE.there; have n5 := hE.isDir; have n6 := hE.kept; have n7 := hE.under; have n8 := hE.room; have H2 := hidC (is_else hE 8 2 (by decide) (by decide) (by decide) (by decide) (by decide)); have H3 := hidC (is_else hE 8 3 (by decide) (by decide) (by decide) (by decide) (by decide)); have H4 := hidC (is_else hE 8 4 (by decide) (by decide) (by decide) (by decide) (by decide)); have H5 := hidC (is_else hE 8 5 (by decide) (by decide) (by decide) (by decide) (by decide)); have H6 := hidC (is_else hE 8 6 (by decide) (by decide) (by decide) (by decide) (by decide)); have H7 := hidC (is_else hE 8 7 (by decide) (by decide) (by decide) (by decide) (by decide)); have HS := hidC (is_same (ae 8) w); clear hE; go_enter Tryz.func17, Tryz.ntmps17
 go_wp2_with fail
 refine H2.out.mono ?_; rintro e w1 ⟨rfl, rfl⟩; go_wp2_with fail
 refine H3.out.mono ?_; rintro e w1 ⟨rfl, rfl⟩; go_wp2_with fail
 refine H4.out.mono ?_; rintro e w1 ⟨rfl, rfl⟩; go_wp2_with fail
 refine H5.out.mono ?_; rintro e w1 ⟨rfl, rfl⟩; go_wp2_with fail
 refine H6.out.mono ?_; rintro e w1 ⟨rfl, rfl⟩; go_wp2_with fail
 refine H7.out.mono ?_; rintro e w1 ⟨rfl, rfl⟩; go_wp2_with fail
 refine HS.out.mono ?_; rintro e w1 ⟨rfl, rfl⟩; go_wp2
 go_ret
 exact ⟨rfl, rfl⟩
theorem doCode_nil (w : World) : Calls Tryz.prog 17 #[.nilIface] w fun e w' => e = .returned (.int .i64 0) ∧ w' = w := by
 go_enter Tryz.func17, Tryz.ntmps17
 go_wp2
 go_ret
 exact ⟨rfl, rfl⟩
theorem doCode_any (w : World) (ae : Int → Addr) (hE : Errs8 w ae) (c : Int) (h0 : 0 ≤ c) (h8 : c ≤ 8) :
  Calls Tryz.prog 17 #[errV ae c] w fun e w' => e = .returned (.int .i64 c) ∧ w' = w := by
 unfold errV; by_cases hc : c = 0
 ·
  rw [if_pos hc, hc]; exact doCode_nil w
 ·
  rw [if_neg hc]; have : c = 1 ∨ c = 2 ∨ c = 3 ∨ c = 4 ∨ c = 5 ∨ c = 6 ∨ c = 7 ∨ c = 8 := by omega
  rcases this with rfl | rfl | rfl | rfl | rfl | rfl | rfl | rfl
  ·
   exact doCode_1 w ae hE
  ·
   exact doCode_2 w ae hE
  ·
   exact doCode_3 w ae hE
  ·
   exact doCode_4 w ae hE
  ·
   exact doCode_5 w ae hE
  ·
   exact doCode_6 w ae hE
  ·
   exact doCode_7 w ae hE
  ·
   exact doCode_8 w ae hE
end Go.Proofs.YtafeddiijemnbaaGreatDoor
