/-
  The walk of the law FnLayerTwice, out of the contracts.
-/
import Derived.Test.YtlobdnnhpaklgaaGreatDoorHPk14
import Derived.Test.YtlobdnnhpaklgaaGreatDoorHLyOn
import Derived.Test.YtlobdnnhpaklgaaGreatDoorHDrawOn
import Derived.Test.YtlobdnnhpaklgaaGreatDoorHSameI
import Derived.Test.YtlobdnnhpaklgaaGreatDoorHLawTop
namespace Go.Proofs.YtlobdnnhpaklgaaGreatDoor.Ly
open Go.RowKit Go.Lib


theorem sameT_re : ∀ es : List E, sameT es es = true
  | [] => rfl
  | e :: r => by
    show (sameT1 e e && sameT r r) = true
    rw [sameT_re r, Bool.and_true]
    unfold sameT1; simp
theorem on_sz {l : List Mk.E} {t : List E} (T : Mk.TrM l) (U : TrE t) (h1 : ∀ e ∈ l, e.p.size ≤ 16777216 ∧ e.x.size ≤ 16777216) (h2 : ∀ e ∈ t, e.p.size ≤ 16777216 ∧ e.x.size ≤ 16777216) : ∀ e ∈ onM l t, e.p.size ≤ 16777216 ∧ e.x.size ≤ 16777216 := fun e he => by
  rcases (on_mem T U.sort e).1 he with ⟨m, hm, h⟩ | ⟨⟨h, -⟩, -⟩
  · unfold entM at h
    split at h
    · cases h; exact h1 m hm
    · split at h
      · cases h; exact ⟨(h1 m hm).1, Nat.zero_le _⟩
      · cases h
  · exact h2 e h

set_option maxHeartbeats 4000000 in
set_option maxRecDepth 100000 in
theorem walk_fnLayerTwice (ae : Int → Addr) (a : Option Addr) (len cap : Nat) (zs : List Int) (w : World) (hErr : Errs2 w ae) (hw : IsRow .u8 w a len cap zs) :
    Calls Tryz.prog 3 #[.slice a len cap] w fun e w' => e = .returned (.bool true) ∧ Below w.heap.size w w' := by
  have hC := hidR hw.cod
  have HEr := hidE (fun (W : World) (h : Below w.heap.size w W) => hErr.below h)
  clear hw hErr
  by_cases hl : len ≤ 1048576
  · go_enter Tryz.func3, Tryz.ntmps3
    go_wp2_with fail
    refine (DrawLayerOn_any _ a len cap hl hC.out).mono ?_
    rintro e w1 ⟨v, v', l, t, rfl, hL, hD, hM, hS, hB⟩
    obtain ⟨a1, g1, o1, c1, rfl, ha1, hE, hc1, -⟩ := hL
    obtain ⟨a2, g2, o2, c2, rfl, ha2, hF, hc2, -⟩ := hM
    have HB1 := hidE hB
    have HE1 := hidE hE
    have HF1 := hidE hF
    have HA1 := hidE ha1
    have HA2 := hidE ha2
    have HZ : Hid (∀ e ∈ l, e.p.size ≤ 16777216 ∧ e.x.size ≤ 16777216) := fun e he => ⟨by have := Mk.okP_size (hD.2 e he).1; omega, by have := (hD.2 e he).2; omega⟩
    have HZ' : Hid (∀ e ∈ t, e.p.size ≤ 16777216 ∧ e.x.size ≤ 16777216) := fun e he => ⟨by have := (hS.2 e he).1; omega, by have := (hS.2 e he).2; omega⟩
    have hlen : l.length ≤ 33 := hD.1
    have hlen' : t.length ≤ 17 := hS.1
    have HIm := hidE (fun (W : World) (h0 : Errs2 W ae) (h1 : Mk.Ents W g1 o1 l) (h2 : Ents W g2 o2 t) => iLayerOn_any W a1 g1 o1 c1 l a2 g2 o2 c2 t ae h0 (by omega) (by omega) HZ.out HZ'.out HA1.out HA2.out h1 h2)
    have HSp := hidE (fun (W : World) (h1 : Mk.Ents W g1 o1 l) (h2 : Ents W g2 o2 t) => sLayerOn_any W a1 g1 o1 c1 l a2 g2 o2 c2 t (by omega) (by omega) hc1 hc2 HZ.out HZ'.out HA1.out HA2.out h1 h2)
    clear hB hE hF ha1 ha2 hD hS hC
    cases hon : onB l t with
    | false =>
      rw [hon] at HIm HSp
      go_wp2_with fail
      refine (HIm.out _ (HEr.out _ HB1.out) HE1.out HF1.out).mono ?_
      rintro e w2 ⟨vg, rfl, -, hB2⟩
      have HB2 := hidE (B3E HB1.out hB2)
      have HE2 := hidE (HE1.out.below hB2)
      have HF2 := hidE (HF1.out.below hB2)
      clear hB2
      go_wp2_with fail
      refine (HSp.out _ HE2.out HF2.out).mono ?_
      rintro e w3 ⟨vw, rfl, -, hB3⟩
      have HB3 := hidE (B3E HB2.out hB3)
      clear hB3
      go_wp2
      go_ret
      exact ⟨rfl, HB3.out⟩
    | true =>
      rw [hon] at HIm HSp
      obtain ⟨k1, k2, k3, k4⟩ := twice_on hon
      obtain ⟨p1, p2, p3, p4⟩ := on_is hon
      have HZd : Hid (∀ e ∈ onE l t, e.p.size ≤ 16777216 ∧ e.x.size ≤ 16777216) := by rw [p4]; exact on_sz (lay_tr' p1) (treeE_tr p2).1 HZ.out HZ'.out
      have hdl : (onE l t).length ≤ 16 := by rw [p4]; exact p3
      obtain ⟨ds, hds⟩ : ∃ ds, onE l t = ds := ⟨_, rfl⟩
      rw [hds] at HIm HSp k1 k2 HZd hdl
      have HIx := hidE (fun (W : World) (ag : Option Addr) (gg capg : Nat) (h0 : Errs2 W ae) (h1 : Mk.Ents W g1 o1 l) (hag : 0 < ds.length → ag = some ⟨gg, 0, none⟩) (h2 : Ents W gg 0 ds) => iLayerOn_any W a1 g1 o1 c1 l ag gg 0 capg ds ae h0 (by omega) (by omega) HZ.out HZd.out HA1.out hag h1 h2)
      rw [k1, k2] at HIx
      have HIn := hidE (fun (W : World) (h0 : Errs2 W ae) (h2 : Ents W g2 o2 t) => iLayerOn_any W none 0 0 0 [] a2 g2 o2 c2 t ae h0 (by simp) (by omega) (fun e he => by cases he) HZ'.out (fun h => absurd h (by simp)) HA2.out (fun i hi => absurd hi (by simp)) h2)
      rw [k3, k4] at HIn
      have HSS := hidE (fun (W : World) (ag ay : Option Addr) (gg capg gy capy : Nat) (h1 : 0 < ds.length → ag = some ⟨gg, 0, none⟩) (h2 : 0 < ds.length → ay = some ⟨gy, 0, none⟩) (h3 : Ents W gg 0 ds) (h4 : Ents W gy 0 ds) => iTreeSame_any W ag gg 0 capg ds ay gy 0 capy ds (by omega) (by omega) h1 h2 h3 h4)
      rw [sameT_re] at HSS
      have HST := hidE (fun (W : World) (az : Option Addr) (gz capz : Nat) (h1 : 0 < t.length → az = some ⟨gz, 0, none⟩) (h3 : Ents W gz 0 t) (h4 : Ents W g2 o2 t) => iTreeSame_any W az gz 0 capz t a2 g2 o2 c2 t (by omega) (by omega) h1 HA2.out h3 h4)
      rw [sameT_re] at HST
      clear hds k1 k2 k3 k4 p1 p2 p3 p4 hon
      go_wp2_with fail
      refine (HIm.out _ (HEr.out _ HB1.out) HE1.out HF1.out).mono ?_
      rintro e w2 ⟨vg, rfl, hrow, hB2⟩
      obtain ⟨ag, gg, capg, rfl, hag, hG, -, -⟩ := hrow
      have HB2 := hidE (B3E HB1.out hB2)
      have HE2 := hidE (HE1.out.below hB2)
      have HF2 := hidE (HF1.out.below hB2)
      have HG2 := hidE hG
      have HAg := hidE hag
      clear hB2 hG hag HIm
      go_wp2_with fail
      refine (HSp.out _ HE2.out HF2.out).mono ?_
      rintro e w3 ⟨vw, rfl, -, hB3⟩
      have HB3 := hidE (B3E HB2.out hB3)
      have HE3 := hidE (HE2.out.below hB3)
      have HF3 := hidE (HF2.out.below hB3)
      have HG3 := hidE (HG2.out.below hB3)
      clear hB3 HSp
      go_wp2_with fail
      refine (HIx.out _ ag gg capg (HEr.out _ HB3.out) HE3.out HAg.out HG3.out).mono ?_
      rintro e w4 ⟨vy, rfl, hrow, hB4⟩
      obtain ⟨ay, gy, capy, rfl, hay, hY, -, -⟩ := hrow
      have HB4 := hidE (B3E HB3.out hB4)
      have HF4 := hidE (HF3.out.below hB4)
      have HG4 := hidE (HG3.out.below hB4)
      have HY4 := hidE hY
      have HAy := hidE hay
      clear hB4 hY hay HIx
      go_wp2_with fail
      refine (HIn.out _ (HEr.out _ HB4.out) HF4.out).mono ?_
      rintro e w5 ⟨vz, rfl, hrow, hB5⟩
      obtain ⟨az, gz, capz, rfl, haz, hZ, -, -⟩ := hrow
      have HB5 := hidE (B3E HB4.out hB5)
      have HF5 := hidE (HF4.out.below hB5)
      have HG5 := hidE (HG4.out.below hB5)
      have HY5 := hidE (HY4.out.below hB5)
      have HZ5 := hidE hZ
      have HAz := hidE haz
      clear hB5 hZ haz HIn
      go_wp2_with fail
      refine (HSS.out _ ag ay gg capg gy capy HAg.out HAy.out HG5.out HY5.out).mono ?_
      rintro e w6 ⟨rfl, hB6⟩
      have HB6 := hidE (B3E HB5.out hB6)
      have HF6 := hidE (HF5.out.below hB6)
      have HZ6 := hidE (HZ5.out.below hB6)
      clear hB6 HSS
      go_wp2_with fail
      refine (HST.out _ az gz capz HAz.out HZ6.out HF6.out).mono ?_
      rintro e w7 ⟨rfl, hB7⟩
      have HB7 := hidE (B3E HB6.out hB7)
      clear hB7 HST
      go_wp2
      go_ret
      exact ⟨rfl, HB7.out⟩
  · have hn : (1048576 : Int) < len := by omega
    go_enter Tryz.func3, Tryz.ntmps3
    go_wp2
    go_ret
    exact ⟨rfl, Below.refl _ _⟩
end Go.Proofs.YtlobdnnhpaklgaaGreatDoor.Ly
