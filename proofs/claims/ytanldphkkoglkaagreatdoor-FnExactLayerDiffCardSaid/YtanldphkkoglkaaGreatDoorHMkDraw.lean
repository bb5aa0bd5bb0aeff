/-
  The walks of the model's draws of a layer, whatever the code.
-/
import Derived.Test.YtanldphkkoglkaaGreatDoorHMkLie
import Derived.Test.YtanldphkkoglkaaGreatDoorHPk15
import Derived.Test.YtanldphkkoglkaaGreatDoorHPk07
namespace Go.Proofs.YtanldphkkoglkaaGreatDoor.Mk
open Go.RowKit Go.Lib

theorem lieL {w : World} {base : Nat} {v : Value} {es : List E} (h : LieB w base v es) : ∃ a g o cap, v = .slice a es.length cap ∧ (0 < es.length → a = some ⟨g, o, none⟩) ∧ Ents w g o es ∧ es.length ≤ cap := by
  obtain ⟨a, g, o, cap, h1, h2, h3, h4, _⟩ := h
  exact ⟨a, g, o, cap, h1, h2, h3, h4⟩

theorem LieB.kn {w w' : World} {base r : Nat} {v : Value} {es : List E} (h : LieB w base v es) (hr : r < base) (k : Kn w.heap.size r w w') : LieB w' base v es := by
  obtain ⟨a, g, o, cap, h1, h2, h3, h4, h5⟩ := h
  refine ⟨a, g, o, cap, h1, h2, fun i hi => ?_, h4, h5⟩
  obtain ⟨c0, c1, c2⟩ := h3 i hi
  have hg : g ≠ r := by have := h5 (by omega); omega
  have hl : g < w.heap.size := World.block_lt_of_cell? w ⟨g, _, none⟩ c0
  have hh := k.2.2.2.2 g hl hg
  exact ⟨(World.cell?_of_block (w := w) (a := ⟨g, _, none⟩) hh).trans c0, (World.cell?_of_block (w := w) (a := ⟨g, _, none⟩) hh).trans c1, (World.cell?_of_block (w := w) (a := ⟨g, _, none⟩) hh).trans c2⟩
theorem Box3.keptD {W W' : World} {b r : Nat} {u v x : Value} (h : Box3 W b u v x) (k : Kept r W W') (hb : b ≠ r) : Box3 W' b u v x := by
  have hh := k.2.2.2.2 b h.lt hb
  exact ⟨(World.cell?_of_block (w := W) (a := ⟨b, _, none⟩) hh).trans h.c0, (World.cell?_of_block (w := W) (a := ⟨b, _, none⟩) hh).trans h.c1, (World.cell?_of_block (w := W) (a := ⟨b, _, none⟩) hh).trans h.c2, (World.frozen?_of_block (w := W) (a := ⟨b, _, none⟩) hh).trans h.f0, (World.frozen?_of_block (w := W) (a := ⟨b, _, none⟩) hh).trans h.f1, (World.frozen?_of_block (w := W) (a := ⟨b, _, none⟩) hh).trans h.f2⟩
theorem Box3.put2 {W : World} {b : Nat} {u v x : Value} (h : Box3 W b u v x) (y : Value) : Box3 (W.setCell ⟨b, 2, none⟩ y) b u v y :=
  ⟨(cell_ne' _ _ _ _ _ (by decide)).trans h.c0, (cell_ne' _ _ _ _ _ (by decide)).trans h.c1, cell_eq' _ h.c2, by rw [World.frozen?_setCell]; exact h.f0, by rw [World.frozen?_setCell]; exact h.f1, by rw [World.frozen?_setCell]; exact h.f2⟩

set_option maxHeartbeats 1000000 in
set_option maxRecDepth 100000 in
theorem l3Ups_any : ∀ (n : Nat) (w : World) (base : Nat) (v : Value) (es : List E) (s : ByteArray), s.size < n → pthP s = true → DrnP es → es.length + s.size ≤ 2000 → base ≤ w.heap.size → LieB w base v es →
    Calls Tryz.prog 66 #[v, .string s] w fun e w' => ∃ (v' : Value) (es' : List E), e = .returned v' ∧ LieB w' base v' es' ∧ DrnP es' ∧ es'.length ≤ es.length + s.size ∧ Below w.heap.size w w'
  | 0, _, _, _, _, _, h, _, _, _, _, _ => by omega
  | n + 1, w, base, v, es, s, hn, hp, hD, hl, hb, hL => by
    have hpb := pth_path hp
    have hlt := up_lt hpb
    have hs16 := okP_size (pth_ok hp)
    have hu := pth_up hp
    obtain ⟨a, g, o, cap, rfl, ha, hE, hcap, hgb⟩ := hL
    have HE := hidE hE
    have HA := hidE ha
    have HD := hidE hD
    have HG := hidE hgb
    clear hE ha hD hgb
    go_enter Tryz.func66, Tryz.ntmps66
    go_wp2_with fail
    refine (sPathUp_any s (by omega) _).mono ?_
    rintro e w1 ⟨rfl, hB1⟩
    have HB1 := hidE hB1
    have HE1 := hidE (HE.out.below hB1)
    clear hB1
    rcases hu with hr | hu
    · have hr2 : (upS s).toList = [47] := by rw [hr, Lib.toList_data]
      have hr3 : ((upS s).toList == [47]) = true := by rw [hr2]; rfl
      go_wp2
      go_ret
      exact ⟨_, es, rfl, ⟨_, g, o, cap, rfl, HA.out, HE1.out, hcap, HG.out⟩, HD.out, by omega, HB1.out⟩
    · have hr2 : ¬ (upS s).toList = [47] := fun q => by
        have : upS s = ⟨#[47]⟩ := (isRoot_iff _).1 (by unfold isRoot; rw [q]; rfl)
        rw [this] at hu
        have := pth_path hu
        rw [root_no_path] at this; cases this
      have hr3 : ((upS s).toList == [47]) = false := by rw [beq_eq_false_iff_ne]; exact hr2
      have HKi := hidE (l3Kind_any w1 a g o cap es (upS s) (by omega) HA.out HE1.out)
      have hw1 := HB1.out.size
      by_cases hk : kindM es (upS s) = 0
      · rw [hk] at HKi
        have HPu := hidE (l3Put_any w1 a g o cap es (upS s) 2 ⟨#[]⟩ (by omega) hcap HA.out HE1.out)
        have hpl := put_len es ⟨upS s, 2, ⟨#[]⟩⟩
        have HD2 := hidE (HD.out.put (e := ⟨upS s, 2, ⟨#[]⟩⟩) ⟨hu, Nat.zero_le _⟩)
        go_wp2_with (first | (go_at_call 78; refine HKi.out.mono ?_; rintro e w2 ⟨rfl, rfl⟩) | (go_at_call 67; refine HPu.out.mono ?_; rintro e w3 ⟨v3, rfl, ho3, hB3⟩) | (go_at_call 66; refine (l3Ups_any n _ base v3 _ (upS s) (by omega) hu HD2.out (by omega) (Nat.le_trans hb (Nat.le_trans hw1 hB3.size)) (ho3.lieB.lower (Nat.le_trans hb hw1))).mono ?_; rintro e w4 ⟨v4, es4, rfl, hL4, hD4, hl4, hB4⟩) | fail)
        go_ret
        exact ⟨_, es4, rfl, hL4, hD4, by omega, tBelow (tBelow HB1.out hB3) hB4⟩
      · have hk' : (kindM es (upS s) == 0) = false := by rw [beq_eq_false_iff_ne]; exact hk
        have HL1 : Hid (LieB w1 base (.slice a es.length cap) es) := ⟨_, g, o, cap, rfl, HA.out, HE1.out, hcap, HG.out⟩
        go_wp2_with (first | (go_at_call 78; refine HKi.out.mono ?_; rintro e w2 ⟨rfl, rfl⟩) | (go_at_call 66; refine (l3Ups_any n _ base _ es (upS s) (by omega) hu HD.out (by omega) (Nat.le_trans hb hw1) HL1.out).mono ?_; rintro e w4 ⟨v4, es4, rfl, hL4, hD4, hl4, hB4⟩) | fail)
        go_ret
        exact ⟨_, es4, rfl, hL4, hD4, by omega, tBelow HB1.out hB4⟩

end Go.Proofs.YtanldphkkoglkaaGreatDoor.Mk
