import Derived.Laws.IdiomStrings
import Derived.Test.YtoaipphccjkphaaDoorHPk28
import Derived.Test.YtoaipphccjkphaaDoorHPathSz
namespace Go.Proofs.YtoaipphccjkphaaDoor
open Go.RowKit Go.Lib
theorem OwnE.at {w : World} {base : Nat} {v : Value} {es : List E} (h : OwnE w base v es) :
  ∃ a g cap, v = .slice a es.length cap ∧ (0 < es.length → a = some ⟨g, 0, none⟩) ∧ Ents w g 0 es ∧ es.length ≤ cap ∧ (0 < es.length → base ≤ g) := by
 obtain ⟨a, g, cap, e1, e2, e3, e4⟩ := h.ents; refine ⟨a, g, cap, e1, e2, e3, e4, fun h0 => ?_⟩; obtain ⟨_, ⟨_, e0⟩ | ⟨g', cap', cur, e5, hb, _⟩⟩ := h
 ·
  omega
 ·
  rw [e1, e2 h0] at e5; cases e5; exact hb
theorem OwnE.kept {w w' : World} {base r : Nat} {v : Value} {es : List E} (h : OwnE w base v es) (hr : r < base) (k : Kept r w w') : OwnE w' base v es :=
 World.ownsRow.kept (row := some r) h ⟨k.1, k.2.1, k.2.2.1, k.2.2.2.1, fun b hb hne => k.2.2.2.2 b hb (fun q => hne (by rw [q]))⟩ (by
  cases hob : v.ownBlock with
  | none => exact .inl rfl
  | some q => 
   right
   intro hq; obtain ⟨_, ⟨e0, _⟩ | ⟨g', cap', cur, e5, hb, _⟩⟩ := h
   ·
    rw [e0] at hob; cases hob
   ·
    rw [e5] at hob; have : g' = q := Option.some.inj hob; have := Option.some.inj hq
    omega)
set_option maxHeartbeats 1000000 in
set_option maxRecDepth 100000 in
theorem l2Tree_any (w : World) (r p : Nat) (hp : p ≤ 5000) (h : Rd w r p) :
  Calls Tryd.prog 41 #[.pointer (some ⟨r, 0, none⟩)] w fun e w' => ∃ (v : Value) (es : List E) (q : Nat), e = .returned v ∧ treeE es = true ∧ OwnE w' w.heap.size v es ∧ q ≤ p + 260 ∧ Rd w' r q ∧ Kept r w w' := by
 have hr := h.lt; have hr1 : w.heap.size + 1 ≠ r := by omega
 have hp1 : p ≤ 10000 := by omega
 obtain ⟨W0, hW0⟩ : ∃ W0, W0 = w.alloc (.cells #[] 27) := ⟨_, rfl⟩
 have hs0 : W0.heap.size = w.heap.size + 1 := by rw [hW0]; simp
 have HO0 : Hid (OwnE W0 w.heap.size (.slice (some ⟨w.heap.size, 0, none⟩) 0 0) []) := by rw [hW0]; exact OwnE.made w (Nat.le_refl _)
 have HK0 : Hid (Kept r w W0) := by rw [hW0]; exact Kept.alloc w _
 have HR0 := hidR (h.below (hW0 ▸ (Below.refl _ w).alloc (Nat.le_refl _) _ : Below w.heap.size w W0)); have HL1 := hidR (LstI.new (fun z => decide (0 ≤ z ∧ z ≤ 30)) W0 [6, 12, 18, 24, 30, 3, 0] 3 (by decide)); rw [hs0] at HL1; clear h; go_enter Tryd.func41, Tryd.ntmps41
 go_wp2_with fail
 rw [← hW0]; clear hW0; refine (num_P (fun z => decide (0 ≤ z ∧ z ≤ 30)) _ r p (w.heap.size + 1) 7 7 (by decide) (by decide) hp1 hr1 HL1.out (HR0.out.below ((Below.refl _ _).alloc (Nat.le_refl _) _))).mono ?_; rintro e w1 ⟨k0, rfl, hk, hR, hK⟩; have HR1 := hidR hR; have HK1 := hidR ((HK0.out.trans (Kept.alloc W0 _)).trans hK); have HO1 := hidR ((HO0.out.kept hr (Kept.alloc W0 _)).kept hr hK); have hk' := of_decide_eq_true hk; obtain ⟨n0, rfl⟩ := Int.eq_ofNat_of_zero_le hk'.1; have hn0 : n0 ≤ 30 := by omega
 clear hR hK hk HL1 HO0 HK0 HR0 hk'; go_wp2_with fail
 go_loopw [3, 4] (fun v iv wl => ∃ (k : Nat) (es : List E) (q : Nat), iv = .int .i64 k ∧ k ≤ 30 ∧ q + 8 * k ≤ p + 241 ∧ Hid (treeE es = true) ∧ Hid (OwnE wl w.heap.size v es) ∧ Hid (Rd wl r q) ∧ Hid (Kept r w wl)) (fun _ iv _ => (RowKit.intOf iv).toNat)
 case atStart => exact ⟨n0, [], p + 1, rfl, hn0, by omega, by rfl, HO1, HR1, HK1⟩
 case round =>
  obtain ⟨k, es, q, rfl, hk, hq, HT, HO, HR, HK⟩ := hrel; by_cases h0 : 0 < k
  ·
   have h0' : (0 : Int) < (k : Int) := by omega
   obtain ⟨a, g, cap, rfl, ha, hE, hcap, hgb⟩ := HO.out.at; have HE := hidR hE; have HA := hidR ha; have HG : Hid (0 < es.length → g ≠ r) := fun h => by have := hgb h; omega
   clear hE ha hgb; obtain ⟨hlen, hsz⟩ := tree_sizes HT.out; have HZ := hidR hsz; clear hsz; go_wp2_with fail
   refine (l2Op_any _ r q a g 0 cap es (by omega) (by omega) HA.out HE.out (fun e he => (HZ.out e he).1) HG.out HR.out).mono ?_; rintro e w2 ⟨ok, op, ot, ox, q2, rfl, z1, z2, z3, hq2, hR, hK⟩; have z2' := okS_size z2; have HR2 := hidR hR; have HK2 := hidR (HK.out.trans hK); have HE2 := hidR (HE.out.kept hK HG.out); have hw2 : w.heap.size ≤ w2.heap.size := HK2.out.2.2.2.1; clear hR hK HR HK HO HE z2; go_wp2_with fail
   refine (sTreeDo_any _ a g 0 cap es ok op ot ox (by omega) hcap (by omega) (by omega) (by omega) (fun e he => ⟨by have := (HZ.out e he).1; omega, by have := (HZ.out e he).2; omega⟩) HA.out HE2.out).mono ?_; rintro e w3 ⟨v, rfl, ho3, hB3⟩; have HR3 := hidR (HR2.out.below hB3); have HK3 := hidR (HK2.out.trans (Kept.of_below hB3)); have HO3 := hidR (ho3.lower (base' := w.heap.size) hw2); have HT3 := hidR (do_tree (q := ⟨ok, op, ot, ox⟩) HT.out); clear ho3 hB3 HR2 HK2 HE2; go_wp2
   go_roundw
   case rel => exact ⟨k - 1, _, q2, by go_num, by omega, by omega, HT3, HO3, HR3, HK3⟩
   case measure => simp [RowKit.intOf]; omega
  ·
   have hk0 : k = 0 := by omega
   subst hk0; clear h0; go_wp2_with fail
   refine (pick_any _ r q _ (by decide) (by decide) (by omega) HR.out).mono ?_; rintro e w2 ⟨j, rfl, j0, j1, hR, hK⟩; have HR2 := hidR hR; have HK2 := hidR (HK.out.trans hK); have HO2 := hidR (HO.out.kept hr hK); clear hR hK HR HK HO; by_cases hj : j = 0
   ·
    subst hj; go_wp2_with fail
    go_loopw [3, 5] (fun v iv wl => ∃ (k : Nat) (es : List E), iv = .int .i64 k ∧ k ≤ 26 ∧ Hid (treeE es = true) ∧ Hid (OwnE wl w.heap.size v es) ∧ Hid (Rd wl r (q + 1)) ∧ Hid (Kept r w wl)) (fun _ iv _ => 26 - (RowKit.intOf iv).toNat)
    case atStart => exact ⟨0, es, rfl, by decide, HT, HO2, HR2, HK2⟩
    case round =>
     clear HT HO2 HR2 HK2; obtain ⟨k, fs, rfl, hk, HT, HO, HR, HK⟩ := hrel; obtain ⟨a, g, cap, rfl, ha, hE, hcap, hgb⟩ := HO.out.at; obtain ⟨hlen, hsz⟩ := tree_sizes HT.out; have HE := hidR hE; have HA := hidR ha; have HZ := hidR hsz; have hwr : w.heap.size ≤ wr.heap.size := HK.out.2.2.2.1; clear hE ha hgb hsz; by_cases hlt : k < 26 ∧ fs.length < 16
     ·
      obtain ⟨h26, h16⟩ := hlt; have h26' : (k : Int) < 26 := by omega
      have h16' : (fs.length : Int) < 16 := by omega
      have hu : ((UInt8.ofNat (97 + k)).toNat : Int) = 97 + (k : Int) := by
       rw [UInt8.toNat_ofNat']; omega
      have kc : (convert 22 9 (.slice (some ⟨wr.heap.size, 0, none⟩) 1 1)).run Tryd.prog (wr.alloc (.cells #[.int .u8 (97 + (k : Int))] 5)) = .ok (.string ⟨#[UInt8.ofNat (97 + k)]⟩) (wr.alloc (.cells #[.int .u8 (97 + (k : Int))] 5)) := by
       refine run_convert_bytes_back _ 22 9 5 ⟨wr.heap.size, 0, none⟩ 1 [UInt8.ofNat (97 + k)] Tryd.underlying22 Tryd.underlying5 Tryd.underlying9 ?_; intro j hj; obtain rfl : j = 0 := by simpa using hj
       simp only [List.getElem_cons_zero]; rw [hu]; simp [Addr.add]
      go_wp2_with fail
      refine (sTreeDo_any _ a g 0 cap fs 2 _ ⟨#[]⟩ ⟨#[]⟩ (by omega) hcap ?sz (by decide) (by decide) (fun e he => ⟨by have := (HZ.out e he).1; omega, by have := (HZ.out e he).2; omega⟩) HA.out (HE.out.below ((Below.refl _ wr).alloc (Nat.le_refl _) _))).mono ?_
      case sz =>
       have e1 : (⟨#[97 + UInt8.ofNat k]⟩ : ByteArray).size = 1 := rfl; have e2 : (⟨#[47, 122]⟩ : ByteArray).size = 2 := rfl; rw [ByteArray.size_append, e1, e2]; decide
      rintro e w3 ⟨v, rfl, ho3, hB3⟩; have hBa : Below wr.heap.size wr (wr.alloc (.cells #[.int .u8 (97 + (k : Int))] 5)) := (Below.refl _ wr).alloc (Nat.le_refl _) _; have hB4 := B3 hBa hB3; have HR3 := hidR (HR.out.below hB4); have HK3 := hidR (HK.out.trans (Kept.of_below hB4)); have HO3 := hidR (ho3.lower (base' := w.heap.size) (Nat.le_trans hwr hBa.size)); have HT3 := hidR (do_tree (q := ⟨2, ⟨#[47, 122]⟩ ++ ⟨#[97 + UInt8.ofNat k]⟩, ⟨#[]⟩, ⟨#[]⟩⟩) HT.out); clear ho3 hB3 hBa hB4 kc; go_wp2
      go_roundw
      case rel => exact ⟨k + 1, _, by go_num, by omega, HT3, HO3, HR3, HK3⟩
      case measure => simp [RowKit.intOf]; omega
     ·
      have fin : ¬ ((k : Int) < 26 ∧ (fs.length : Int) < 16) := by omega
      by_cases h26 : k < 26
      ·
       have h16 : ¬ (fs.length : Int) < 16 := by omega
       go_wp2
       go_ret
       exact ⟨_, rfl, fs, HT.out, HO.out, _, by omega, HR.out, HK.out⟩
      ·
       have h26' : ¬ (k : Int) < 26 := by omega
       go_wp2
       go_ret
       exact ⟨_, rfl, fs, HT.out, HO.out, _, by omega, HR.out, HK.out⟩
   ·
    have hj' : (j == 0) = false := by rw [beq_eq_false_iff_ne]; exact hj
    go_wp2
    go_ret
    exact ⟨_, es, _, rfl, HT.out, HO2.out, by omega, HR2.out, HK2.out⟩
end Go.Proofs.YtoaipphccjkphaaDoor
