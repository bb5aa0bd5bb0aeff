/-
  The walk of the model's TreeDo.
-/
import Derived.Test.YtlobdnnhpaklgaaGreatDoorHTreeDo
namespace Go.Proofs.YtlobdnnhpaklgaaGreatDoor
open Go.RowKit Go.Lib

set_option maxHeartbeats 2000000 in
theorem sTreeDo_any (w : World) (a : Option Addr) (g o cap : Nat) (es : List E) (k : Int) (p t x : ByteArray) (hl : es.length ≤ 1048576) (hcap : es.length ≤ cap) (hp : p.size ≤ 16777216) (ht : t.size ≤ 16777216) (hx : x.size ≤ 16777216) (hz : ∀ e ∈ es, e.p.size ≤ 16777216 ∧ e.x.size ≤ 16777216) (ha : 0 < es.length → a = some ⟨g, o, none⟩) (hE : Ents w g o es) :
    Calls Tryz.prog 30 #[.slice a es.length cap, .agg #[.int .i64 k, .string p, .string t, .string x]] w fun r w' => ∃ v, r = .returned (.tuple #[v, .int .i64 (doC es ⟨k, p, t, x⟩)]) ∧ OwnE w' w.heap.size v (doE es ⟨k, p, t, x⟩) ∧ Below w.heap.size w w' := by
  obtain ⟨W0, hW0⟩ : ∃ W0, W0 = w.alloc (.cells #[.int .i64 k, .string p, .string t, .string x] 79) := ⟨_, rfl⟩
  have HW := hidE hW0
  have HS0 : Hid (W0.heap.size = w.heap.size + 1) := by show _ = _; rw [hW0]; simp
  have HB0 : Hid (Below w.heap.size w W0) := by rw [hW0]; exact (Below.refl _ w).alloc (Nat.le_refl _) _
  have HE := hidE (Ents.below hE HB0.out)
  have HZ := hidE hz
  have box : ∀ W : World, Below W0.heap.size W0 W → W.cell? ⟨w.heap.size, 0, none⟩ = some (.int .i64 k) ∧ W.cell? ⟨w.heap.size, 1, none⟩ = some (.string p) ∧ W.cell? ⟨w.heap.size, 2, none⟩ = some (.string t) ∧ W.cell? ⟨w.heap.size, 3, none⟩ = some (.string x) := fun W hW => by
    rw [hW0] at hW; exact box4 hW
  have HX := hidE box
  have HO := hidE (sTreeOk_any W0 a g o cap es (by omega) hcap hz ha HE.out)
  clear hE hz hW0 box
  cases hT : treeE es with
  | false =>
    have HC : Hid (doC es ⟨k, p, t, x⟩ = 1) := by show _ = _; unfold doC; rw [hT]; rfl
    have HD : Hid (doE es ⟨k, p, t, x⟩ = []) := by show _ = _; unfold doE; rw [hT]; rfl
    rw [hT] at HO
    rw [HC.out, HD.out]
    go_enter Tryz.func30, Tryz.ntmps30
    go_wp2_with fail
    rw [← HW.out]
    refine HO.out.mono ?_
    rintro e w1 ⟨rfl, hB1⟩
    have HB1 := hidE (HB0.out.trans (hB1.mono (by rw [HS0.out]; omega)))
    clear hB1
    go_wp2
    exact bodyPost_ret (v := .tuple #[.slice (some ⟨w1.heap.size, 0, none⟩) 0 0, .int .i64 1]) (by simp [results, Tryz.results30, go_sem]) rfl ⟨_, rfl, OwnE.made w1 HB1.out.size, HB1.out.alloc HB1.out.size _⟩
  | true =>
    rw [hT] at HO
    have HP := hidE (fun (W : World) => sOpOk_any W k p t x hp ht hx)
    cases hQ : opB ⟨k, p, t, x⟩ with
    | false =>
      have HC : Hid (doC es ⟨k, p, t, x⟩ = 1) := by show _ = _; unfold doC; rw [hT, hQ]; rfl
      have HD : Hid (doE es ⟨k, p, t, x⟩ = es) := by show _ = _; unfold doE; rw [hT, HC.out]; rfl
      rw [hQ] at HP
      rw [HC.out, HD.out]
      go_enter Tryz.func30, Tryz.ntmps30
      go_wp2_with fail
      rw [← HW.out]
      refine HO.out.mono ?_
      rintro e w1 ⟨rfl, hB1⟩
      obtain ⟨c0, c1, c2, c3⟩ := HX.out w1 hB1
      have HB1 := hidE hB1
      clear hB1
      go_wp2_with fail
      refine (HP.out _).mono ?_
      rintro e w2 ⟨rfl, hB2⟩
      have HB2 := hidE (HB1.out.trans (hB2.mono HB1.out.size))
      have HB3 := hidE (HB2.out.alloc HB2.out.size (.cells #[] 57))
      have hz2 := HB2.out.size
      clear hB2 HB1 c0 c1 c2 c3
      go_wp2_with (first
        | (at_builtin; refine wpE_append rfl _ _ rfl W0.heap.size (.slice (some ⟨w2.heap.size, 0, none⟩) 0 0) [] rfl (OwnE.made w2 hz2) _ _ g o es es.length rfl rfl ha (HE.out.below HB3.out) ?c1 ?c2 ?_)
        | fail)
      case c1 => show 0 + _ ≤ _; omega
      case c2 => exact HB3.out.size
      intro v5 w5 ho5 hg5
      have HB6 := hidE (HB3.out.grown hg5 HB3.out.size (fun q hq => (World.ownsRow.lt (OwnE.made w2 (base := W0.heap.size) hz2) q hq).1))
      have HO6 : Hid (OwnE w5 W0.heap.size v5 es) := ho5
      clear ho5 hg5 HB3
      go_wp2
      exact bodyPost_ret (v := .tuple #[v5, .int .i64 1]) (by simp [results, Tryz.results30, go_sem]) rfl ⟨_, rfl, HO6.out.lower (by rw [HS0.out]; omega), HB0.out.trans (HB6.out.mono (by rw [HS0.out]; omega))⟩
    | true =>
      rw [hQ] at HP
      have HC : Hid (doC es ⟨k, p, t, x⟩ = codeC es k p t) := by show _ = _; unfold doC; rw [hT, hQ]; rfl
      have HK := hidE (fun (W : World) (hW : Ents W g o es) => l2Code_any W a g o cap es k p t x hl hp ht HZ.out ha hW)
      by_cases h0 : codeC es k p t = 0
      · have HD : Hid (doE es ⟨k, p, t, x⟩ = madeE es k p t x) := by show _ = _; unfold doE; rw [hT, HC.out, h0]; rfl
        rw [HC.out, HD.out, h0]
        rw [h0] at HK
        clear h0
        go_enter Tryz.func30, Tryz.ntmps30
        go_wp2_with fail
        rw [← HW.out]
        refine HO.out.mono ?_
        rintro e w1 ⟨rfl, hB1⟩
        obtain ⟨c0, c1, c2, c3⟩ := HX.out w1 hB1
        have HB1 := hidE hB1
        clear hB1
        go_wp2_with fail
        refine (HP.out _).mono ?_
        rintro e w2 ⟨rfl, hB2⟩
        have HB2 := hidE (HB1.out.trans (hB2.mono HB1.out.size))
        clear hB2 HB1 c0 c1 c2 c3
        obtain ⟨c0, c1, c2, c3⟩ := HX.out w2 HB2.out
        have hz2' := HB2.out.size
        go_wp2_with fail
        refine (HK.out _ (HE.out.below HB2.out)).mono ?_
        rintro e w3 ⟨rfl, hB3⟩
        have HB4 := hidE (HB2.out.trans (hB3.mono HB2.out.size))
        clear hB3 HB2 c0 c1 c2 c3
        obtain ⟨c0, c1, c2, c3⟩ := HX.out w3 HB4.out
        go_wp2_with fail
        refine (l2Do_any _ a g o cap es k p t x hl hcap hp ht HZ.out ha (HE.out.below HB4.out)).mono ?_
        rintro e w4 ⟨v, rfl, ho5, hB5⟩
        have HB6 := hidE (HB4.out.trans (hB5.mono HB4.out.size))
        have HO6 := hidE (ho5.lower (base' := w.heap.size) (Nat.le_trans (by rw [HS0.out]; omega) HB4.out.size))
        clear ho5 hB5 c0 c1 c2 c3 HB4
        go_wp2
        exact bodyPost_ret (v := .tuple #[v, .int .i64 0]) (by simp [results, Tryz.results30, go_sem]) rfl ⟨_, rfl, HO6.out, HB0.out.trans (HB6.out.mono (by rw [HS0.out]; omega))⟩
      · have HD : Hid (doE es ⟨k, p, t, x⟩ = es) := by show _ = _; unfold doE; rw [hT, HC.out, if_pos rfl, if_neg h0]
        rw [HC.out, HD.out]
        obtain ⟨c, hc⟩ : ∃ c, codeC es k p t = c := ⟨_, rfl⟩
        rw [hc] at h0 HK ⊢
        have n0 : (c == 0) = false := by rw [beq_eq_false_iff_ne]; exact h0
        clear hc
        go_enter Tryz.func30, Tryz.ntmps30
        go_wp2_with fail
        rw [← HW.out]
        refine HO.out.mono ?_
        rintro e w1 ⟨rfl, hB1⟩
        obtain ⟨c0, c1, c2, c3⟩ := HX.out w1 hB1
        have HB1 := hidE hB1
        clear hB1
        go_wp2_with fail
        refine (HP.out _).mono ?_
        rintro e w2 ⟨rfl, hB2⟩
        have HB2 := hidE (HB1.out.trans (hB2.mono HB1.out.size))
        clear hB2 HB1 c0 c1 c2 c3
        obtain ⟨c0, c1, c2, c3⟩ := HX.out w2 HB2.out
        have hz2' := HB2.out.size
        go_wp2_with fail
        refine (HK.out _ (HE.out.below HB2.out)).mono ?_
        rintro e w3 ⟨rfl, hB3⟩
        have HB4 := hidE (HB2.out.trans (hB3.mono HB2.out.size))
        clear hB3 HB2 c0 c1 c2 c3
        obtain ⟨c0, c1, c2, c3⟩ := HX.out w3 HB4.out
        have HB3 := hidE (HB4.out.alloc HB4.out.size (.cells #[] 57))
        have hz2 := HB4.out.size
        clear c0 c1 c2 c3
        go_wp2_with (first
          | (at_builtin; refine wpE_append rfl _ _ rfl W0.heap.size (.slice (some ⟨w3.heap.size, 0, none⟩) 0 0) [] rfl (OwnE.made w3 hz2) _ _ g o es es.length rfl rfl ha (HE.out.below HB3.out) ?c1 ?c2 ?_)
          | fail)
        case c1 => show 0 + _ ≤ _; omega
        case c2 => exact HB3.out.size
        intro v5 w5 ho5 hg5
        have HB6 := hidE (HB3.out.grown hg5 HB3.out.size (fun q hq => (World.ownsRow.lt (OwnE.made w3 (base := W0.heap.size) hz2) q hq).1))
        have HO6 : Hid (OwnE w5 W0.heap.size v5 es) := ho5
        clear ho5 hg5 HB3
        go_wp2
        exact bodyPost_ret (v := .tuple #[v5, .int .i64 c]) (by simp [results, Tryz.results30, go_sem]) rfl ⟨_, rfl, HO6.out.lower (by rw [HS0.out]; omega), HB0.out.trans (HB6.out.mono (by rw [HS0.out]; omega))⟩
end Go.Proofs.YtlobdnnhpaklgaaGreatDoor
