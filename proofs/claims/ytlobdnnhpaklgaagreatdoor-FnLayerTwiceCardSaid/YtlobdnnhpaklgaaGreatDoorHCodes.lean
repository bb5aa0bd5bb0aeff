/-
  The walks of how the model says that something ends.
-/
import Derived.Test.YtlobdnnhpaklgaaGreatDoorHKids
namespace Go.Proofs.YtlobdnnhpaklgaaGreatDoor
open Go.RowKit Go.Lib

set_option maxHeartbeats 400000 in
theorem l2Up_any (w : World) (a : Option Addr) (g o cap : Nat) (es : List E) (s : ByteArray) (hl : es.length ≤ 16777216) (hs : s.size ≤ 16777216) (ha : 0 < es.length → a = some ⟨g, o, none⟩) (hE : Ents w g o es) :
    Calls Tryz.prog 113 #[.slice a es.length cap, .string s] w fun r w' => r = .returned (.int .i64 (upC es s)) ∧ Below w.heap.size w w' := by
  have HE := hidE hE
  have HU : Hid (upC es s = if (getE es (upS s)).2 = false then 2 else if (getE es (upS s)).1.d = false then 3 else 0) := show _ = _ from rfl
  clear hE
  obtain ⟨⟨p, d, x⟩, b, hg⟩ : ∃ e b, getE es (upS s) = (e, b) := ⟨_, _, rfl⟩
  rw [hg] at HU
  go_enter Tryz.func113, Tryz.ntmps113
  go_wp2_with fail
  refine (sPathUp_any s hs _).mono ?_
  rintro e w1 ⟨rfl, hB1⟩
  have HG := hidE (l2Get_any w1 a g o cap es (upS s) hl ha (HE.out.below hB1))
  rw [hg] at HG
  go_wp2_with fail
  refine HG.out.mono ?_
  rintro e w2 ⟨rfl, hB2⟩
  have HB := hidE (hB1.trans (hB2.mono hB1.size))
  have hz2 := HB.out.size
  clear hB1 hB2 HG
  cases b with
  | false =>
    go_wp2
    go_ret
    exact ⟨ret_iE (by rw [HU.out]; rfl), HB.out.alloc hz2 _⟩
  | true =>
    cases d with
    | false =>
      go_wp2
      go_ret
      exact ⟨ret_iE (by rw [HU.out]; rfl), HB.out.alloc hz2 _⟩
    | true =>
      go_wp2
      go_ret
      exact ⟨ret_iE (by rw [HU.out]; rfl), HB.out.alloc hz2 _⟩

set_option maxHeartbeats 400000 in
theorem l2New_any (w : World) (a : Option Addr) (g o cap : Nat) (es : List E) (s : ByteArray) (hl : es.length ≤ 16777216) (hs : s.size ≤ 16777216) (ha : 0 < es.length → a = some ⟨g, o, none⟩) (hE : Ents w g o es) :
    Calls Tryz.prog 90 #[.slice a es.length cap, .string s] w fun r w' => r = .returned (.int .i64 (newC es s)) ∧ Below w.heap.size w w' := by
  have HE := hidE hE
  have HU : Hid (newC es s = if upC es s ≠ 0 then upC es s else if (getE es s).2 = true then 4 else if 16 ≤ es.length then 8 else 0) := show _ = _ from rfl
  have HS := hidE (fun (W : World) (hW : Ents W g o es) => l2Up_any W a g o cap es s hl hs ha hW)
  have HG := hidE (fun (W : World) (hW : Ents W g o es) => l2Get_any W a g o cap es s hl ha hW)
  clear hE
  obtain ⟨⟨p, d, x⟩, b, hg⟩ : ∃ e b, getE es s = (e, b) := ⟨_, _, rfl⟩
  obtain ⟨c, hc⟩ : ∃ c, upC es s = c := ⟨_, rfl⟩
  rw [hg, hc] at HU
  rw [hg] at HG
  rw [hc] at HS
  clear hc hg
  go_enter Tryz.func90, Tryz.ntmps90
  go_wp2_with fail
  refine (HS.out _ HE.out).mono ?_
  rintro e w1 ⟨rfl, hB1⟩
  have HB1 := hidE hB1
  clear hB1
  go_wp2_with fail
  refine (HG.out _ (HE.out.below HB1.out)).mono ?_
  rintro e w2 ⟨rfl, hB2⟩
  have HB := hidE (HB1.out.trans (hB2.mono HB1.out.size))
  have hz2 := HB.out.size
  clear HB1 hB2 HG HS
  by_cases h0 : c = 0
  · subst h0
    cases b with
    | true =>
      go_wp2
      go_ret
      exact ⟨ret_iE (by rw [HU.out]; rfl), by first | exact HB.out | exact HB.out.alloc hz2 _⟩
    | false =>
      by_cases h16 : 16 ≤ es.length
      · go_wp2
        go_ret
        exact ⟨ret_iE (by rw [HU.out]; simp [h16]), by first | exact HB.out | exact HB.out.alloc hz2 _⟩
      · go_wp2
        go_ret
        exact ⟨ret_iE (by rw [HU.out]; simp [h16]), by first | exact HB.out | exact HB.out.alloc hz2 _⟩
  · have n0 : (c == 0) = false := by rw [beq_eq_false_iff_ne]; exact h0
    go_wp2
    go_ret
    exact ⟨ret_iE (by rw [HU.out, if_pos h0]), by first | exact HB.out | exact HB.out.alloc hz2 _⟩

set_option maxHeartbeats 400000 in
theorem l2PutCode_any (w : World) (a : Option Addr) (g o cap : Nat) (es : List E) (s : ByteArray) (hl : es.length ≤ 16777216) (hs : s.size ≤ 16777216) (ha : 0 < es.length → a = some ⟨g, o, none⟩) (hE : Ents w g o es) :
    Calls Tryz.prog 91 #[.slice a es.length cap, .string s] w fun r w' => r = .returned (.int .i64 (putC es s)) ∧ Below w.heap.size w w' := by
  have HE := hidE hE
  have HU : Hid (putC es s = if newC es s = 4 then (if (getE es s).1.d = true then 5 else 0) else newC es s) := show _ = _ from rfl
  have HS := hidE (fun (W : World) (hW : Ents W g o es) => l2New_any W a g o cap es s hl hs ha hW)
  have HG := hidE (fun (W : World) (hW : Ents W g o es) => l2Get_any W a g o cap es s hl ha hW)
  clear hE
  obtain ⟨⟨p, d, x⟩, b, hg⟩ : ∃ e b, getE es s = (e, b) := ⟨_, _, rfl⟩
  obtain ⟨c, hc⟩ : ∃ c, newC es s = c := ⟨_, rfl⟩
  rw [hg, hc] at HU
  rw [hg] at HG
  rw [hc] at HS
  clear hc hg
  go_enter Tryz.func91, Tryz.ntmps91
  go_wp2_with fail
  refine (HS.out _ HE.out).mono ?_
  rintro e w1 ⟨rfl, hB1⟩
  have HB1 := hidE hB1
  clear hB1
  go_wp2_with fail
  refine (HG.out _ (HE.out.below HB1.out)).mono ?_
  rintro e w2 ⟨rfl, hB2⟩
  have HB := hidE (HB1.out.trans (hB2.mono HB1.out.size))
  have hz2 := HB.out.size
  clear HB1 hB2 HG HS
  by_cases h4 : c = 4
  · subst h4
    cases d with
    | true =>
      go_wp2
      go_ret
      exact ⟨ret_iE (by rw [HU.out]; rfl), by first | exact HB.out | exact HB.out.alloc hz2 _⟩
    | false =>
      go_wp2
      go_ret
      exact ⟨ret_iE (by rw [HU.out]; rfl), by first | exact HB.out | exact HB.out.alloc hz2 _⟩
  · have n0 : (c == 4) = false := by rw [beq_eq_false_iff_ne]; exact h4
    go_wp2
    go_ret
    exact ⟨ret_iE (by rw [HU.out, if_neg h4]), by first | exact HB.out | exact HB.out.alloc hz2 _⟩
end Go.Proofs.YtlobdnnhpaklgaaGreatDoor
